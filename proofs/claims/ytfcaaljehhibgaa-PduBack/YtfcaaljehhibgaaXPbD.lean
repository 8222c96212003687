/- Letters in memory: the document's Put, Same. -/
import Derived.Test.YtfcaaljehhibgaaXPbC
import Derived.Test.YtfcaaljehhibgaaXPdL4
import Derived.Test.YtfcaaljehhibgaaXPdQ
namespace Go.Proofs.Ytfcaaljehhibgaa
open Go.RowKit
set_option linter.unusedVariables false
set_option linter.unusedSimpArgs false
set_option maxRecDepth 8000

theorem rput7 (y : Lm7) (hs ds : Bool) (mo : Int) (w : World) (h : y.Ok w) : Calls Try.prog 24 #[y.v, optV hs ds mo] w fun e w' => ∃ z, e = .returned (.tuple #[z, .int .i64 (y.x.err mo)]) ∧ Own w' w.heap.size z (if y.x.err mo = 0 then y.x.enc hs ds else []) ∧ Below w.heap.size w w' :=
  rqPut_any y.x.op y.x.fl y.x.b2 y.x.b3 y.x.lun.toNat y.x.tk.toNat y.x.w0.toNat y.x.w1.toNat y.x.w2.toNat y.x.w3.toNat y.x.w4.toNat y.x.w5.toNat y.x.w6.toNat y.x.now y.a y.x.d.length y.c hs ds mo y.x.d w y.x.ws rfl h.le h.nil h.row
theorem same7 (x : Lt7) (a : Option Addr) (ac : Nat) (b : Option Addr) (bc : Nat) (w : World) (ha : Row w a x.d) (hb : Row w b x.d) : Calls Try.prog 16 #[(⟨x, a, ac⟩ : Lm7).v, (⟨x, b, bc⟩ : Lm7).v] w fun e w' => e = .returned (.bool true) ∧ Below w.heap.size w w' :=
  pSame_yes x.op x.fl x.b2 x.b3 x.lun.toNat x.tk.toNat x.w0.toNat x.w1.toNat x.w2.toNat x.w3.toNat x.w4.toNat x.w5.toNat x.w6.toNat x.now a x.d.length ac b bc x.d w rfl ha hb
theorem put7z (y : Lm7) (hs ds : Bool) (mo : Int) (w : World) (h : y.Ok w) (he : y.x.err mo = 0) : Calls Try.prog 21 #[y.v, optV hs ds mo] w fun e w' => ∃ z, e = .returned (.tuple #[z, .int .i64 0]) ∧ Own w' w.heap.size z (y.x.enc hs ds) ∧ Below w.heap.size w w' := by
  refine (put7 y hs ds mo w h).mono ?_
  rintro e w' ⟨z, h1, h2, h3⟩
  rw [he] at h1
  rw [if_pos he] at h2
  exact ⟨z, h1, h2, h3⟩
theorem rput7z (y : Lm7) (hs ds : Bool) (mo : Int) (w : World) (h : y.Ok w) (he : y.x.err mo = 0) : Calls Try.prog 24 #[y.v, optV hs ds mo] w fun e w' => ∃ z, e = .returned (.tuple #[z, .int .i64 0]) ∧ Own w' w.heap.size z (y.x.enc hs ds) ∧ Below w.heap.size w w' := by
  refine (rput7 y hs ds mo w h).mono ?_
  rintro e w' ⟨z, h1, h2, h3⟩
  rw [he] at h1
  rw [if_pos he] at h2
  exact ⟨z, h1, h2, h3⟩
theorem own_ok7 {w : World} {base c : Nat} {a : Option Addr} {x : Lt7} (h : Own w base (.slice a x.d.length c) x.d) (hm : x.d.length ≤ 140737488351232) : Lm7.Ok w ⟨x, a, c⟩ := by
  obtain ⟨a', c', hv, h1, -, h3, h4, -⟩ := h.open
  simp only [Value.slice.injEq] at hv
  obtain ⟨rfl, -, rfl⟩ := hv
  exact ⟨h3, h1, h4, hm⟩
end Go.Proofs.Ytfcaaljehhibgaa

/- The walk of PduBack. -/
namespace Go.Proofs.Ytfcaaljehhibgaa
open Go.RowKit
set_option linter.unusedVariables false
set_option linter.unusedSimpArgs false
set_option maxRecDepth 8000

set_option maxHeartbeats 16000000 in
theorem pduBack_walk (a0 : Option Addr) (len0 cap0 : Nat) (hs ds : Bool) (mo : Int) (a2 : Option Addr) (len2 cap2 : Nat) (l2 : List Int) (w : World) (A0 : Pdu17Arg w a0 len0 cap0) (A1 : I64 mo) (A2 : VArg .i64 w a2 len2 cap2 l2) :
    Calls Try.prog 4 #[.slice a0 len0 cap0, .agg #[.bool hs, .bool ds, .int .i64 mo], .slice a2 len2 cap2] w fun e w' => e = .returned (.bool true) ∧ Below w.heap.size w w' := by
  have HA : Hid _ := And.intro A0 A2
  clear A0 A1 A2
  have b0 : Below w.heap.size w (w.alloc (.cells #[.bool hs, .bool ds, .int .i64 mo] 23)) := (Below.refl _ _).alloc (Nat.le_refl _) _
  have N0 := Blk.new' w 23 [.bool hs, .bool ds, .int .i64 mo]
  have HB : Hid (∀ W, Below (w.alloc (.cells #[.bool hs, .bool ds, .int .i64 mo] 23)).heap.size (w.alloc (.cells #[.bool hs, .bool ds, .int .i64 mo] 23)) W → (Instr.loadAt 23 (.pointer (some ⟨w.heap.size, 0, none⟩))).run Try.prog W = .ok (optV hs ds mo) W) := fun W hW => load_o7 (N0.laterB hW)
  go_enter Try.func4, Try.ntmps4
  go_upto_region 1 with fail
  obtain ⟨w0, hw0⟩ : ∃ w0, w0 = w.alloc (.cells #[.bool hs, .bool ds, .int .i64 mo] 23) := ⟨_, rfl⟩
  rw [← hw0] at HB b0 ⊢
  obtain ⟨ob, hob⟩ : ∃ ob, ob = w.heap.size := ⟨_, rfl⟩
  rw [← hob] at HB ⊢
  have HO : Hid _ := And.intro hob b0
  clear N0 hw0 b0 hob
  have lo := HB.out w0 (Below.refl _ _)
  have N := opts7 hs ds mo w0
  go_wp2_with (refine wpList_value rfl (exec_load rfl rfl lo) ?_)
  refine N.mono ?_
  rintro r w1 ⟨rfl, b1⟩
  clear N lo
  by_cases hok : okO mo = true
  · have N := pNew_yes hs ds mo w1 hok
    go_wp2_with fail
    refine N.mono ?_
    rintro r w2 ⟨g, rfl, hg, hR, b2⟩
    clear N
    have hz1 := b1.size
    have H2 : Hid _ := And.intro hR (And.intro (below_then b1 b2) (And.intro hok (show w0.heap.size ≤ g by omega)))
    clear hR hg b1 b2 hok hz1
    go_wp2_with fail
    go_loopw [9, 10, 11] (fun av wv iv wr => ∃ (k : Nat) (ys : List Lm7) (qa qw : Option Nat), iv = .int .i64 k ∧ k ≤ 8 ∧ PbS hs ds mo w w2 wr av wv k ys qa qw) (fun _ _ iv _ => 8 - (intOf iv).toNat)
    case atStart => exact ⟨0, [], none, none, rfl, by omega, PbS.start hs ds mo w w2⟩
    case round =>
      obtain ⟨k, ys, qa, qw, rfl, hk8, hI⟩ := hrel
      obtain ⟨aa, ac, rfl, -⟩ := hI.all.open
      obtain ⟨wa, wc, rfl, -⟩ := hI.want.cell kPd_ok
      obtain ⟨L, hL⟩ : ∃ L, L = (strm hs ds (ltrs ys)).length := ⟨_, rfl⟩
      obtain ⟨yn, hyn⟩ : ∃ yn, yn = ys.length := ⟨_, rfl⟩
      rw [← hL, ← hyn] at hI
      rw [← hL, ← hyn]
      have HI : Hid _ := And.intro hI (And.intro hL hyn)
      clear hI hL hyn
      go_upto_region 7 with fail
      go_cut [53] from 46 to 86 (fun c wx => c = .bool (decide (k < len0 ∧ k < 8)) ∧ wx = wr)
      case first =>
        clear HI H2 HB HO HA
        by_cases t1 : (k : Int) < (len0 : Int)
        · by_cases t2 : (k : Int) < 8
          · go_wp2
            go_meet
            exact ⟨congrArg Value.bool (decide_eq_true (p := k < len0 ∧ k < 8) (by omega)).symm, rfl⟩
          · go_wp2
            go_meet
            exact ⟨congrArg Value.bool (decide_eq_false (p := k < len0 ∧ k < 8) (by omega)).symm, rfl⟩
        · go_wp2
          go_meet
          exact ⟨congrArg Value.bool (decide_eq_false (p := k < len0 ∧ k < 8) (by omega)).symm, rfl⟩
      case rest =>
      obtain ⟨rfl, hwc⟩ := hcut
      obtain rfl := hwc.symm
      clear hwc
      by_cases hlt' : k < len0 ∧ k < 8
      · have hdec : decide (k < len0 ∧ k < 8) = true := decide_eq_true hlt'
        rw [hdec]
        clear hdec
        obtain ⟨t1, t2⟩ := hlt'
        obtain ⟨b, off, rfl, hE⟩ := HA.out.1.each (by omega)
        obtain ⟨y, hla, hyo⟩ := (hE k t1).open
        clear hE
        have hbw0 := below_then H2.out.2.1 HI.out.1.bel
        have hbw := below_then HO.out.2 hbw0
        have HY : Hid _ := And.intro (hla.later hbw) (And.intro (DatOk.later hyo hbw) (And.intro hyo (And.intro hbw0 hla)))
        clear hla hyo hbw0 hbw
        have q1 : (k : Int) < (len0 : Int) := by omega
        go_upto_region 9 with fail
        refine wp_region_held_drew (S := fun W => Below wr.heap.size wr W) (by kernel_rfl) (Below.refl _ _).drew (fun hS => ?_)
        have B0 : Below wr.heap.size wr wr.drew := (Below.refl _ _).drew
        refine any_take (i := 0) (v := ?_) rfl (by kernel_rfl) (by kernel_rfl) (by kernel_rfl) (by exact fun _ _ _ h => h) (by rfl) ?_ hS ?_
        rotate_left
        · ((intro w hSw; (try dsimp only at hSw); go_simp) <;> with_reducible rfl)
        (try simp only [Act.put, List.setIfInBounds_toArray, List.set_cons_zero, List.set_cons_succ])
        refine any_take (i := 1) (v := ?_) rfl (by kernel_rfl) (by kernel_rfl) (by kernel_rfl) (by exact fun _ _ _ h => h) (by rfl) ?_ hS ?_
        rotate_left
        · ((intro w hSw; (try dsimp only at hSw); go_simp) <;> with_reducible rfl)
        (try simp only [Act.put, List.setIfInBounds_toArray, List.set_cons_zero, List.set_cons_succ])
        refine any_take (i := 2) (v := ?_) rfl (by kernel_rfl) (by kernel_rfl) (by kernel_rfl) (by exact fun _ _ _ h => h) (by rfl) ?_ hS ?_
        rotate_left
        · ((intro w hSw; (try dsimp only at hSw); go_simp) <;> with_reducible rfl)
        (try simp only [Act.put, List.setIfInBounds_toArray, List.set_cons_zero, List.set_cons_succ])
        refine any_take (i := 3) (v := y.v) rfl (by kernel_rfl) (by kernel_rfl) (by kernel_rfl) (by exact fun _ _ _ h => h) (by rfl) ?_ hS ?_
        · intro W hSW; exact exec_load rfl rfl ((HY.out.1.later hSW).load)
        (try simp only [Act.put, List.setIfInBounds_toArray, List.set_cons_zero, List.set_cons_succ])
        refine any_take (i := 5) (v := optV hs ds mo) rfl (by kernel_rfl) (by kernel_rfl) (by kernel_rfl) (by exact fun _ _ _ h => h) (by rfl) ?_ hS ?_
        · intro W hSW; exact exec_load rfl rfl (HB.out W (below_then HY.out.2.2.2.1 hSW))
        (try simp only [Act.put, List.setIfInBounds_toArray, List.set_cons_zero, List.set_cons_succ])
        refine any_one (i := 4) rfl (by kernel_rfl) (fun K hK => ?_)
        go_simp
        refine (Calls.mono (given7 y _ (DatOk.later HY.out.2.1 hS))) ?_
        rintro e x1 ⟨zx, zc, rfl, oz, hbR⟩
        have B1 : Below wr.heap.size wr x1 := below_then B0 hbR
        go_wp2_with fail
        refine hK.out _ _ (by first | exact B1 | exact hbR | exact below_then hS hbR) (any_weaken (S' := fun W => Below x1.heap.size x1 W) (fun W hW => by first | exact below_then B1 hW | exact below_then hbR hW | exact below_then (below_then hS hbR) hW) _ _ _ _ ?_)
        clear hK K hS hbR
        have hS : Below x1.heap.size x1 x1 := Below.refl _ _
        have oz' : Lm7.Ok x1 ⟨y.x, zx, zc⟩ := by obtain ⟨a', c', hv, h1, h2, h3, h4, -⟩ := oz.open; cases hv; exact ⟨h3, h1, h4, HY.out.2.1.most⟩
        have K2 : Calls Try.prog 6 #[optV hs ds mo] x1 fun e w' => e = .returned (optV hs ds mo) ∧ Lm7.Ok w' ⟨y.x, zx, zc⟩ ∧ Below x1.heap.size x1 w' := (opts7 hs ds mo x1).mono (fun e w' h => ⟨h.1, DatOk.later oz' h.2, h.2⟩)
        clear oz oz'
        refine any_one (i := 6) rfl (by kernel_rfl) (fun K hK => ?_)
        go_simp
        refine (Calls.mono (K2)) ?_
        rintro e x2 ⟨rfl, oz2, hbR⟩
        have B2 : Below wr.heap.size wr x2 := below_then B1 hbR
        go_wp2_with fail
        refine hK.out _ _ (by first | exact B2 | exact hbR | exact below_then hS hbR) (any_weaken (S' := fun W => Below x2.heap.size x2 W) (fun W hW => by first | exact below_then B2 hW | exact below_then hbR hW | exact below_then (below_then hS hbR) hW) _ _ _ _ ?_)
        clear hK K hS hbR
        have hS : Below x2.heap.size x2 x2 := Below.refl _ _
        refine any_one (i := 7) rfl (by kernel_rfl) (fun K hK => ?_)
        go_simp
        refine (Calls.mono (put7 ⟨y.x, zx, zc⟩ hs ds mo _ oz2)) ?_
        rintro e x3 ⟨zb, rfl, oe, hbR⟩
        have B3 : Below wr.heap.size wr x3 := below_then B2 hbR
        go_wp2_with fail
        refine hK.out _ _ (by first | exact B3 | exact hbR | exact below_then hS hbR) (any_weaken (S' := fun W => Below x3.heap.size x3 W) (fun W hW => by first | exact below_then B3 hW | exact below_then hbR hW | exact below_then (below_then hS hbR) hW) _ _ _ _ ?_)
        clear hK K hS hbR
        have hS : Below x3.heap.size x3 x3 := Below.refl _ _
        refine any_take (i := 8) (v := ?_) rfl (by kernel_rfl) (by kernel_rfl) (by kernel_rfl) (by exact fun _ _ _ h => h) (by rfl) ?_ hS ?_
        rotate_left
        · ((intro w hSw; (try dsimp only at hSw); go_simp) <;> with_reducible rfl)
        (try simp only [Act.put, List.setIfInBounds_toArray, List.set_cons_zero, List.set_cons_succ])
        refine any_take (i := 9) (v := ?_) rfl (by kernel_rfl) (by kernel_rfl) (by kernel_rfl) (by exact fun _ _ _ h => h) (by rfl) ?_ hS ?_
        rotate_left
        · ((intro w hSw; (try dsimp only at hSw); go_simp) <;> with_reducible rfl)
        (try simp only [Act.put, List.setIfInBounds_toArray, List.set_cons_zero, List.set_cons_succ])
        refine any_take (i := 10) (v := ?_) rfl (by kernel_rfl) (by kernel_rfl) (by kernel_rfl) (by exact fun _ _ _ h => h) (by rfl) ?_ hS ?_
        rotate_left
        · ((intro w hSw; (try dsimp only at hSw); go_simp) <;> with_reducible rfl)
        (try simp only [Act.put, List.setIfInBounds_toArray, List.set_cons_zero, List.set_cons_succ])
        refine any_take (i := 11) (v := ?_) rfl (by kernel_rfl) (by kernel_rfl) (by kernel_rfl) (by exact fun _ _ _ h => h) (by rfl) ?_ hS ?_
        rotate_left
        · ((intro w hSw; (try dsimp only at hSw); go_simp) <;> with_reducible rfl)
        (try simp only [Act.put, List.setIfInBounds_toArray, List.set_cons_zero, List.set_cons_succ])
        refine any_take (i := 12) (v := ?_) rfl (by kernel_rfl) (by kernel_rfl) (by kernel_rfl) (by exact fun _ _ _ h => h) (by rfl) ?_ hS ?_
        rotate_left
        · ((intro w hSw; (try dsimp only at hSw); go_simp) <;> with_reducible rfl)
        (try simp only [Act.put, List.setIfInBounds_toArray, List.set_cons_zero, List.set_cons_succ])
        refine wpAnyH_done (by kernel_rfl) ?_ _
        have oe : Own x3 x2.heap.size zb (if y.x.err mo = 0 then y.x.enc hs ds else []) := oe
        have H9 : Hid _ := And.intro B3 oe
        clear oe oz2 K2 hS B0 B1 B2 B3
        obtain ⟨E, hE⟩ : ∃ E, E = y.x.err mo := ⟨_, rfl⟩
        rw [← hE] at H9 ⊢
        have HE : Hid _ := hE
        clear hE
        by_cases h0 : E = 0
        · subst h0
          have oe := H9.out.2
          rw [if_pos rfl] at oe
          obtain ⟨za, zc2, rfl, hzc, -, hzr, hzn, -⟩ := oe.open
          obtain ⟨EL, hEL⟩ : ∃ EL, EL = (y.x.enc hs ds).length := ⟨_, rfl⟩
          rw [← hEL] at hzc ⊢
          have HEL : Hid _ := hEL
          clear hEL
          have u2 : IntKind.i64.wrap ((L : Int) + (EL : Int)) = (L : Int) + (EL : Int) := by
            have h1 := HI.out.1.most
            rw [← HI.out.2.1] at h1
            have h2 := (Lt7.can HE.out.symm).2.2.2.2.2
            have h3 := putB_len hs ds y.x.head y.x.d (by omega)
            have h4 := pad_body y.x.d.length (by omega)
            have h5 := dgN_le hs
            have h6 := dgN_le (ds && decide (0 < y.x.d.length))
            have h7 := (Lt7.ok HE.out.symm).len
            have h8 : EL ≤ 1000000 := by rw [HEL.out]; unfold Lt7.enc; omega
            rw [IntKind.wrap_i64]; omega
          by_cases hsum : L + EL ≤ 131072
          · have q2 : (L : Int) + (EL : Int) ≤ 131072 := by omega
            have hP := HI.out.1.later H9.out.1
            obtain ⟨a', c', u1, wv', u2', hr1, hr2, -, hbu, qa', qw', hP2⟩ := hP.add y HY.out.2.2.1 HE.out.symm za zc2 hzr hzn (by rw [← HEL.out]; exact hzc) (by rw [← HI.out.2.1, ← HEL.out]; exact hsum) (by omega) HI.out.1.few
            rw [← HI.out.2.1, ← HEL.out] at hr1 hP2
            have ld := (LAt.later (w' := u1) HY.out.2.2.2.2 (below_then HO.out.2 (below_then H2.out.2.1 hbu))).load
            have F : Hid _ := hP2
            have FL : Hid (L + EL = (strm hs ds (ltrs (ys ++ [y]))).length ∧ yn + 1 = (ys ++ [y]).length) := ⟨by rw [strm_snoc, List.length_append, ← HI.out.2.1, ← HEL.out], by rw [List.length_append, ← HI.out.2.2]; rfl⟩
            clear hP hP2 oe hzr hzn hzc hbu
            go_wp2_with (first | (refine wpList_runApp rfl _ _ _ _ rfl _ _ rfl rfl hr1 ?_) | (refine wpList_value rfl (exec_load rfl rfl ld) ?_) | (refine wpList_value rfl (build7 y _ _ (.tmp 84) rfl rfl _) ?_) | (refine wpList_runApp rfl _ _ _ _ rfl _ _ rfl rfl hr2 ?_))
            go_roundw
            case rel => exact ⟨k + 1, _, _, _, by go_num, by omega, F.out⟩
            case measure => simp [intOf]; omega
          · have q2 : ¬ (L : Int) + (EL : Int) ≤ 131072 := by omega
            have F : Hid _ := HI.out.1.later H9.out.1
            clear oe hzr hzn hzc
            go_wp2
            go_roundw
            case rel => exact ⟨k + 1, _, _, _, by go_num, by omega, F.out⟩
            case measure => simp [intOf]; omega
        · have q0 : (E == 0) = false := by rw [beq_eq_false_iff_ne]; exact h0
          have F : Hid _ := HI.out.1.later H9.out.1
          go_wp2
          go_roundw
          case rel => exact ⟨k + 1, _, _, _, by go_num, by omega, F.out⟩
          case measure => simp [intOf]; omega
      · have hdec : decide (k < len0 ∧ k < 8) = false := decide_eq_false hlt'
        rw [hdec]
        clear hdec hlt'
        obtain ⟨w3, rfl⟩ : ∃ w3, w3 = wr := ⟨_, rfl⟩
        have hgl := H2.out.1.lt.1
        have P0 : PbR hs ds mo w3 w3 g none qa (.slice aa L ac) ((ltrs ys).drop 0) [] (strm hs ds (ltrs ys)) := ⟨H2.out.1.later HI.out.1.bel, RSt.same w3 g none, HI.out.1.all, rfl⟩
        have hE : ∀ x ∈ ltrs ys, x.err mo = 0 := fun x hx => by
          obtain ⟨y, hy, rfl⟩ := List.mem_map.1 hx
          exact (HI.out.1.each y hy).2
        have hqg : qa ≠ some g ∧ qw ≠ some g := ⟨fun e => by have := (HI.out.1.qaN g e).1; omega, fun e => by have := HI.out.1.qwN g e; omega⟩
        have HP : Hid _ := And.intro P0 (And.intro hE (And.intro hqg (And.intro hgl hk8)))
        clear P0 hE hqg hgl hk8
        go_wp2_with fail
        go_loopw [9, 14, 15] (fun av nv iv wr => ∃ (i n : Nat) (q : Option Nat) (l a : List (BitVec 8)), iv = .int .i64 i ∧ nv = .int .i64 n ∧ i ≤ 40 ∧ n ≤ ys.length ∧ PbR hs ds mo w3 wr g q qa av ((ltrs ys).drop n) l a ∧ (31 ≤ i → a = []) ∧ (a = [] → (ltrs ys).drop n = [] ∧ l = [])) (fun _ _ iv _ => 40 - (intOf iv).toNat)
        case atStart => exact ⟨0, 0, none, [], _, rfl, rfl, by omega, Nat.zero_le _, HP.out.1, (fun h => by omega), fun h => ⟨strm_nil HP.out.2.1 h, rfl⟩⟩
        case round =>
          obtain ⟨i, n, q, l, a, rfl, rfl, hi40, hny, hR, h31, hnil⟩ := hrel
          obtain ⟨ba, bc, rfl, -⟩ := hR.all.open
          have HR : Hid _ := And.intro hR (And.intro h31 (And.intro hnil hny))
          clear hR h31 hnil hny
          obtain ⟨an, han⟩ : ∃ an, an = a.length := ⟨_, rfl⟩
          rw [← han] at HR ⊢
          have HAN : Hid _ := han
          clear han
          go_upto_region 15 with fail
          go_cut [93] from 87 to 179 (fun c wx => c = .bool (decide (i < 40 ∧ 0 < an)) ∧ wx = wr)
          case first =>
            clear HI H2 HB HO HA HR HP HAN
            by_cases t1 : (i : Int) < 40
            · by_cases t2 : (0 : Int) < (an : Int)
              · go_wp2
                go_meet
                exact ⟨congrArg Value.bool (by have h : i < 40 := by omega
                                               simp [h]), rfl⟩
              · go_wp2
                go_meet
                exact ⟨congrArg Value.bool (by have h : i < 40 := by omega
                                               simp [h]), rfl⟩
            · go_wp2
              go_meet
              exact ⟨congrArg Value.bool (decide_eq_false (p := i < 40 ∧ 0 < an) (by omega)).symm, rfl⟩
          case rest =>
          obtain ⟨rfl, hwc⟩ := hcut
          obtain rfl := hwc.symm
          clear hwc
          by_cases hlt' : i < 40 ∧ 0 < an
          · have hdec : decide (i < 40 ∧ 0 < an) = true := decide_eq_true hlt'
            rw [hdec]
            clear hdec
            obtain ⟨t1, t2⟩ := hlt'
            have HW : Hid (Below w.heap.size w wr) := by
              have h1 := below_then HO.out.2 (below_then H2.out.2.1 HI.out.1.bel)
              have h0 := HO.out.2.size
              exact h1.trans (HR.out.1.st.below w.heap.size h1.size (by have := H2.out.2.2.2; omega) (fun k e => by cases e)).1
            have hfew := HR.out.1.few HI.out.1.most
            rw [← HAN.out] at hfew
            have q2 : (an : Int) ≤ 131072 := by omega
            go_upto_region 18 with fail
            go_cut [105] from 87 to 179 (fun cv wx => cv = .bool (decide (i < len2 ∧ i < 30)) ∧ wx = wr)
            case first =>
              clear HI H2 HB HO HA HR HP HAN HW hfew
              by_cases u1 : (i : Int) < (len2 : Int)
              · by_cases u2 : (i : Int) < 30
                · go_wp2
                  go_meet
                  exact ⟨congrArg Value.bool (decide_eq_true (p := i < len2 ∧ i < 30) (by omega)).symm, rfl⟩
                · go_wp2
                  go_meet
                  exact ⟨congrArg Value.bool (decide_eq_false (p := i < len2 ∧ i < 30) (by omega)).symm, rfl⟩
              · go_wp2
                go_meet
                exact ⟨congrArg Value.bool (decide_eq_false (p := i < len2 ∧ i < 30) (by omega)).symm, rfl⟩
            case rest =>
            obtain ⟨rfl, hwc⟩ := hcut
            obtain rfl := hwc.symm
            clear hwc
            go_upto_if 105 with fail
            go_cut [16] from 87 to 179 (fun kv wx => ∃ m : Nat, kv = .int .i64 m ∧ m ≤ an ∧ (30 ≤ i → m = an) ∧ wx = wr)
            case first =>
              by_cases ht : i < len2 ∧ i < 30
              · rw [decide_eq_true ht]
                obtain ⟨b2, off2, rfl, hE⟩ := HA.out.2.each (by omega)
                have hi2 : i < l2.length := by have := HA.out.2.num; omega
                have hcell := cell_laterP HW.out (hE i hi2)
                have hz := i64_of_wf (HA.out.2.wf l2[i] (List.getElem_mem hi2))
                have N := ct_any l2[i] (an + 1) wr hz (by omega) (by omega)
                rw [show ((an + 1 : Nat) : Int) = (an : Int) + 1 by omega] at N
                have u1 : (i : Int) < (len2 : Int) := by omega
                generalize l2[i] = z at *
                clear hE HI H2 HB HO HA HR HP HAN HW hfew hz
                go_wp2_with fail
                refine N.mono ?_
                rintro r w5 ⟨m, rfl, hm, rfl⟩
                clear N
                go_wp2
                go_meet
                exact ⟨m, rfl, by omega, fun h => by omega, rfl⟩
              · rw [decide_eq_false ht]
                clear HI H2 HB HO HA HR HP HAN HW hfew
                go_wp2
                go_meet
                exact ⟨an, rfl, Nat.le_refl _, fun _ => rfl, rfl⟩
            case rest =>
            obtain ⟨m, rfl, hm, hm30, hwc⟩ := hcut
            obtain rfl := hwc.symm
            clear hwc
            obtain ⟨ba', bc', hbv, hbc, hbm, hbr, hbn, -⟩ := HR.out.1.all.open
            simp only [Value.slice.injEq] at hbv
            obtain ⟨rfl, -, rfl⟩ := hbv
            obtain ⟨y, hrun, hyr, hyn, -⟩ := slice_upto hbr HAN.out.symm (by have := HAN.out; omega) m hm hbn
            have N := pFeed_yes g q hs ds mo l wr y m bc (a.take m) HR.out.1.rd (by omega) (by rw [List.length_take]; have := HAN.out; omega) hyr hyn (by have := HAN.out; omega) (by omega) (by omega)
            have HM : Hid _ := And.intro hm hm30
            clear hbr hbn hyr hyn hbc hbm hfew hm30
            have hrw := hrun wr
            clear hrun
            go_wp2_with (refine wpList_value rfl (exec_slice rfl rfl hrw) ?_)
            refine N.mono ?_
            rintro r w5 ⟨rfl, q5, hrd5, hst5⟩
            clear N hrw
            have hall5 : BSl w5 (.slice ba an bc) qa a := HR.out.1.all.same (fun k hk => hst5.tn.block k (HR.out.1.all.lt k hk) (fun e => by
              rcases e with e | e
              · rw [e] at hk; exact HP.out.2.2.1.1 hk
              · exact HR.out.1.qaq (fun b hb => HI.out.1.all.lt b hb) k hk e))
            obtain ⟨y2, hrun2, hall6⟩ := hall5.cut' m (by have := HAN.out; omega)
            have hrw := hrun2 w5
            clear hrun2
            have R5 : PbR hs ds mo w3 w5 g q5 qa (.slice y2 (an - m) (bc - m)) ((ltrs ys).drop n) (l ++ a.take m) (a.drop m) := ⟨hrd5, HR.out.1.st.trans hst5, hall6, by rw [List.append_assoc, List.take_append_drop]; exact HR.out.1.eq⟩
            have H5 : Hid _ := R5
            clear R5 hall5 hall6 hrd5 hst5
            go_wp2_with (refine wpList_value rfl (exec_slice rfl rfl hrw) ?_)
            clear hrw
            go_loopw [14, 17] (fun nv jv wr => ∃ (j n' : Nat) (q l : _), jv = .int .i64 j ∧ nv = .int .i64 n' ∧ n + j = n' ∧ n' ≤ ys.length ∧ PbR hs ds mo w3 wr g q qa (.slice y2 (an - m) (bc - m)) ((ltrs ys).drop n') l (a.drop m)) (fun _ jv _ => 10 - (intOf jv).toNat)
            case atStart => exact ⟨0, n, q5, _, rfl, rfl, by omega, HR.out.2.2.2, H5.out⟩
            case round =>
              obtain ⟨j, n', q6, l6, rfl, rfl, hj, hn', hR6⟩ := hrel
              have hj8 : j < 10 := by have h1 := HI.out.1.few; have h2 := HP.out.2.2.2.2; omega
              have q3 : (j : Int) < 10 := by omega
              have hfew6 := hR6.few HI.out.1.most
              have N := pNext_any g q6 hs ds mo l6 wr hR6.rd (by omega)
              rcases strm_next (mo := mo) (xs := (ltrs ys).drop n') (fun x hx => HP.out.2.1 x (List.mem_of_mem_drop hx)) hR6.eq with ⟨hw, hnil⟩ | ⟨x, r, l', hxs, hw, hH, hd, hl', heq⟩
              · have N2 : Calls Try.prog 14 #[.pointer (some ⟨g, 0, none⟩)] wr fun e w' => e = .returned (.tuple #[.agg zP.toArray, .int .i64 0, .bool false]) ∧ RdS w' g q6 hs ds mo l6 false ∧ RSt wr w' g q6 q6 := N.mono (fun e w' h => h.wait (by rw [hw]) (by rw [hw]))
                have H6 : Hid _ := And.intro hR6 (And.intro hnil hn')
                clear N hR6 hnil hw hn' hfew6
                go_wp2_with fail
                refine N2.mono ?_
                rintro r w6 ⟨rfl, hrd, hst⟩
                clear N2
                obtain ⟨w7, st, -, b7⟩ := newP w6 zP rfl zP_one
                have hall : BSl w6 (.slice y2 (an - m) (bc - m)) qa (a.drop m) := H6.out.1.all.same (fun k hk => hst.tn.block k (H6.out.1.all.lt k hk) (fun e => by
                  rcases e with e | e
                  · rw [e] at hk; exact HP.out.2.2.1.1 hk
                  · exact H6.out.1.qaq (fun b hb => HI.out.1.all.lt b hb) k hk e))
                have R7 : PbR hs ds mo w3 w7 g q6 qa (.slice y2 (an - m) (bc - m)) ((ltrs ys).drop n') l6 (a.drop m) := PbR.later ⟨hrd, H6.out.1.st.trans hst, hall, H6.out.1.eq⟩ b7
                have F : Hid _ := And.intro R7 (And.intro H6.out.2 (show 31 ≤ i + 1 → a.drop m = [] from fun h => by
                  have h1 := HM.out.2 (by omega)
                  exact List.drop_eq_nil_of_le (by have := HAN.out; omega)))
                clear R7 hall hrd hst b7 H6
                go_wp2_with (refine wpList_skip rfl (exec_store rfl rfl rfl st) ?_)
                clear st
                go_roundw
                case rel => exact ⟨i + 1, n', q6, l6, _, by go_num, rfl, by omega, F.out.2.1.2, F.out.1, F.out.2.2, F.out.2.1.1⟩
                case measure => simp [intOf]; omega
              · have hn8 : n' < ys.length := by
                  rcases Nat.lt_or_ge n' ys.length with h | h
                  · exact h
                  · rw [List.drop_eq_nil_of_le (by unfold ltrs; rw [List.length_map]; exact h)] at hxs; cases hxs
                have hn9 : n' < (ltrs ys).length := by unfold ltrs; rw [List.length_map]; exact hn8
                rw [List.drop_eq_getElem_cons hn9] at hxs
                obtain ⟨hx1, hr1⟩ := List.cons.inj hxs
                have hx2 : ys[n'].x = x := by rw [← hx1]; exact (List.getElem_map Lm7.x).symm
                have hYe := HI.out.1.each ys[n'] (List.getElem_mem hn8)
                obtain ⟨Ya, Yc, hY⟩ : ∃ Ya Yc, ys[n'] = ⟨x, Ya, Yc⟩ := ⟨ys[n'].a, ys[n'].c, by rw [← hx2]⟩
                rw [hY] at hYe
                have hx0 : x.err mo = 0 := hYe.2
                have N2 : Calls Try.prog 14 #[.pointer (some ⟨g, 0, none⟩)] wr fun e w' => ∃ za zc q', e = .returned (.tuple #[(⟨x, za, zc⟩ : Lm7).v, .int .i64 0, .bool true]) ∧ Own w' wr.heap.size (.slice za x.d.length zc) x.d ∧ RdS w' g q' hs ds mo l' false ∧ RSt wr w' g q6 q' := N.mono (fun e w' h => by
                  obtain ⟨z, q', h1, h2, h3, h4, h5⟩ := h.tell (by rw [hw])
                  rw [hw] at h1 h2
                  simp only [↓reduceIte] at h2
                  rw [hd] at h2
                  obtain ⟨za, zc, rfl, -⟩ := h2.open
                  rw [hH, pdV_of hx0] at h1
                  rw [hl'] at h4
                  exact ⟨za, zc, q', h1, h2, h4, h5⟩)
                have hEq : l' ++ a.drop m = strm hs ds ((ltrs ys).drop (n' + 1)) := by rw [heq, hr1]
                have H6 : Hid _ := And.intro hR6 (And.intro hEq (And.intro hYe (And.intro hY hn8)))
                have q4 : (n' : Int) < (yn : Int) := by have := HI.out.2.2; omega
                have q5 : ¬ (yn : Int) ≤ (n' : Int) := by omega
                have q6n : ¬ yn ≤ n' := by omega
                have q7n : n' < yn := by omega
                clear N hR6 hw hH hd hl' heq hn' hfew6 hxs hx1 hr1 hx2 hYe hx0 hEq hn9
                go_wp2_with fail
                refine N2.mono ?_
                rintro e w6 ⟨za, zc, q7, rfl, oz, hrd, hst⟩
                clear N2
                obtain ⟨w7, st, B7, b7⟩ := newP w6 (⟨x, za, zc⟩ : Lm7).cs rfl (kPd_ok.one _)
                have hall : BSl w6 (.slice y2 (an - m) (bc - m)) qa (a.drop m) := H6.out.1.all.same (fun k hk => hst.tn.block k (H6.out.1.all.lt k hk) (fun e => by
                  rcases e with e | e
                  · rw [e] at hk; exact HP.out.2.2.1.1 hk
                  · exact H6.out.1.qaq (fun b hb => HI.out.1.all.lt b hb) k hk e))
                have R7 : PbR hs ds mo w3 w7 g q7 qa (.slice y2 (an - m) (bc - m)) ((ltrs ys).drop (n' + 1)) l' (a.drop m) := PbR.later ⟨hrd, H6.out.1.st.trans hst, hall, H6.out.2.1⟩ b7
                have hW7 : Below w.heap.size w w7 ∧ Below w0.heap.size w0 w7 := by
                  have h2 := below_then H2.out.2.1 HI.out.1.bel
                  have h1 := below_then HO.out.2 h2
                  have h0 := HO.out.2.size
                  exact ⟨h1.trans (R7.st.below w.heap.size h1.size (by have := H2.out.2.2.2; omega) (fun k e => by cases e)).1, h2.trans (R7.st.below w0.heap.size h2.size H2.out.2.2.2 (fun k e => by cases e)).1⟩
                have hwant : GSl kPd w7 (.slice wa yn wc) qw ys := HI.out.1.want.turned R7.st.tn (fun k hk e => by
                  rcases e with e | e
                  · rw [e] at hk; exact HP.out.2.2.1.2 hk
                  · cases e)
                obtain ⟨wb, woff, wc', hwv, -, hla⟩ := gsl_at7 hwant n' H6.out.2.2.2.2
                rw [H6.out.2.2.2.1] at hla
                simp only [Value.slice.injEq] at hwv
                obtain ⟨rfl, -, rfl⟩ := hwv
                have H7 : Hid _ := And.intro R7 (And.intro hW7 (And.intro hla (And.intro B7 (oz.later b7))))
                clear R7 hW7 hwant hla B7 hall oz hrd hst b7
                go_wp2_with (refine wpList_skip rfl (exec_store rfl rfl rfl st) ?_)
                clear st
                go_upto_region 28 with fail
                refine wp_region_held_drew (S := fun W => Below w7.heap.size w7 W) (by kernel_rfl) (Below.refl _ _).drew (fun hS => ?_)
                have B0 : Below w7.heap.size w7 w7.drew := (Below.refl _ _).drew
                refine any_take (i := 0) (v := ?_) rfl (by kernel_rfl) (by kernel_rfl) (by kernel_rfl) (by exact fun _ _ _ h => h) (by rfl) ?_ hS ?_
                rotate_left
                · ((intro w hSw; (try dsimp only at hSw); go_simp) <;> with_reducible rfl)
                (try simp only [Act.put, List.setIfInBounds_toArray, List.set_cons_zero, List.set_cons_succ])
                refine any_take (i := 1) (v := ?_) rfl (by kernel_rfl) (by kernel_rfl) (by kernel_rfl) (by exact fun _ _ _ h => h) (by rfl) ?_ hS ?_
                rotate_left
                · ((intro w hSw; (try dsimp only at hSw); go_simp) <;> with_reducible rfl)
                (try simp only [Act.put, List.setIfInBounds_toArray, List.set_cons_zero, List.set_cons_succ])
                refine any_take (i := 2) (v := ?_) rfl (by kernel_rfl) (by kernel_rfl) (by kernel_rfl) (by exact fun _ _ _ h => h) (by rfl) ?_ hS ?_
                rotate_left
                · ((intro w hSw; (try dsimp only at hSw); go_simp) <;> with_reducible rfl)
                (try simp only [Act.put, List.setIfInBounds_toArray, List.set_cons_zero, List.set_cons_succ])
                refine any_take (i := 3) (v := ?_) rfl (by kernel_rfl) (by kernel_rfl) (by kernel_rfl) (by exact fun _ _ _ h => h) (by rfl) ?_ hS ?_
                rotate_left
                · ((intro w hSw; (try dsimp only at hSw); go_simp) <;> with_reducible rfl)
                (try simp only [Act.put, List.setIfInBounds_toArray, List.set_cons_zero, List.set_cons_succ])
                refine any_take (i := 4) (v := ?_) rfl (by kernel_rfl) (by kernel_rfl) (by kernel_rfl) (by exact fun _ _ _ h => h) (by rfl) ?_ hS ?_
                rotate_left
                · ((intro w hSw; (try dsimp only at hSw); go_simp) <;> with_reducible rfl)
                (try simp only [Act.put, List.setIfInBounds_toArray, List.set_cons_zero, List.set_cons_succ])
                refine any_take (i := 5) (v := ?_) rfl (by kernel_rfl) (by kernel_rfl) (by kernel_rfl) (by exact fun _ _ _ h => h) (by rfl) ?_ hS ?_
                rotate_left
                · ((intro w hSw; (try dsimp only at hSw); go_simp) <;> with_reducible rfl)
                (try simp only [Act.put, List.setIfInBounds_toArray, List.set_cons_zero, List.set_cons_succ])
                refine any_take (i := 6) (v := ?_) rfl (by kernel_rfl) (by kernel_rfl) (by kernel_rfl) (by exact fun _ _ _ h => h) (by rfl) ?_ hS ?_
                rotate_left
                · ((intro w hSw; (try dsimp only at hSw); go_simp) <;> with_reducible rfl)
                (try simp only [Act.put, List.setIfInBounds_toArray, List.set_cons_zero, List.set_cons_succ])
                refine any_take (i := 7) (v := ?_) rfl (by kernel_rfl) (by kernel_rfl) (by kernel_rfl) (by exact fun _ _ _ h => h) (by rfl) ?_ hS ?_
                rotate_left
                · ((intro w hSw; (try dsimp only at hSw); go_simp) <;> with_reducible rfl)
                (try simp only [Act.put, List.setIfInBounds_toArray, List.set_cons_zero, List.set_cons_succ])
                refine any_take (i := 8) (v := ?_) rfl (by kernel_rfl) (by kernel_rfl) (by kernel_rfl) (by exact fun _ _ _ h => h) (by rfl) ?_ hS ?_
                rotate_left
                · ((intro w hSw; (try dsimp only at hSw); go_simp) <;> with_reducible rfl)
                (try simp only [Act.put, List.setIfInBounds_toArray, List.set_cons_zero, List.set_cons_succ])
                refine any_take (i := 9) (v := (⟨x, za, zc⟩ : Lm7).v) rfl (by kernel_rfl) (by kernel_rfl) (by kernel_rfl) (by exact fun _ _ _ h => h) (by rfl) ?_ hS ?_
                · intro W hSW; exact exec_load rfl rfl (load_all size_pd agg_pd (H7.out.2.2.2.1.laterB hSW))
                (try simp only [Act.put, List.setIfInBounds_toArray, List.set_cons_zero, List.set_cons_succ])
                refine any_take (i := 11) (v := ?_) rfl (by kernel_rfl) (by kernel_rfl) (by kernel_rfl) (by exact fun _ _ _ h => h) (by rfl) ?_ hS ?_
                rotate_left
                · ((intro w hSw; (try dsimp only at hSw); go_simp) <;> with_reducible rfl)
                (try simp only [Act.put, List.setIfInBounds_toArray, List.set_cons_zero, List.set_cons_succ])
                refine any_take (i := 12) (v := ?_) rfl (by kernel_rfl) (by kernel_rfl) (by kernel_rfl) (by exact fun _ _ _ h => h) (by rfl) ?_ hS ?_
                rotate_left
                · ((intro w hSw; (try dsimp only at hSw); go_simp) <;> with_reducible rfl)
                (try simp only [Act.put, List.setIfInBounds_toArray, List.set_cons_zero, List.set_cons_succ])
                refine any_take (i := 13) (v := ?_) rfl (by kernel_rfl) (by kernel_rfl) (by kernel_rfl) (by exact fun _ _ _ h => h) (by rfl) ?_ hS ?_
                rotate_left
                · ((intro w hSw; (try dsimp only at hSw); go_simp) <;> with_reducible rfl)
                (try simp only [Act.put, List.setIfInBounds_toArray, List.set_cons_zero, List.set_cons_succ])
                refine any_take (i := 14) (v := (⟨x, Ya, Yc⟩ : Lm7).v) rfl (by kernel_rfl) (by kernel_rfl) (by kernel_rfl) (by exact fun _ _ _ h => h) (by rfl) ?_ hS ?_
                · intro W hSW; exact exec_load rfl rfl ((H7.out.2.2.1.later hSW).load)
                (try simp only [Act.put, List.setIfInBounds_toArray, List.set_cons_zero, List.set_cons_succ])
                refine any_one (i := 10) rfl (by kernel_rfl) (fun K hK => ?_)
                go_simp
                refine (Calls.mono (taken7 ⟨x, za, zc⟩ _)) ?_
                rintro e x1 ⟨rfl, hbR⟩
                have B1 : Below w7.heap.size w7 x1 := below_then B0 hbR
                go_wp2_with fail
                refine hK.out _ _ (by first | exact B1 | exact hbR | exact below_then hS hbR) (any_weaken (S' := fun W => Below x1.heap.size x1 W) (fun W hW => by first | exact below_then B1 hW | exact below_then hbR hW | exact below_then (below_then hS hbR) hW) _ _ _ _ ?_)
                clear hK K hS hbR
                have hS : Below x1.heap.size x1 x1 := Below.refl _ _
                refine any_one (i := 15) rfl (by kernel_rfl) (fun K hK => ?_)
                go_simp
                refine (Calls.mono (same7 x za zc Ya Yc _ ((own_rowP H7.out.2.2.2.2).later B1) ((H6.out.2.2.1.1.row).later (below_then H7.out.2.1.1 B1)))) ?_
                rintro e x2 ⟨rfl, hbR⟩
                have B2 : Below w7.heap.size w7 x2 := below_then B1 hbR
                go_wp2_with fail
                refine hK.out _ _ (by first | exact B2 | exact hbR | exact below_then hS hbR) (any_weaken (S' := fun W => Below x2.heap.size x2 W) (fun W hW => by first | exact below_then B2 hW | exact below_then hbR hW | exact below_then (below_then hS hbR) hW) _ _ _ _ ?_)
                clear hK K hS hbR
                have hS : Below x2.heap.size x2 x2 := Below.refl _ _
                refine any_take (i := 16) (v := ?_) rfl (by kernel_rfl) (by kernel_rfl) (by kernel_rfl) (by exact fun _ _ _ h => h) (by rfl) ?_ hS ?_
                rotate_left
                · ((intro w hSw; (try dsimp only at hSw); go_simp) <;> with_reducible rfl)
                (try simp only [Act.put, List.setIfInBounds_toArray, List.set_cons_zero, List.set_cons_succ])
                refine any_take (i := 17) (v := ?_) rfl (by kernel_rfl) (by kernel_rfl) (by kernel_rfl) (by exact fun _ _ _ h => h) (by rfl) ?_ hS ?_
                rotate_left
                · ((intro w hSw; (try dsimp only at hSw); go_simp) <;> with_reducible rfl)
                (try simp only [Act.put, List.setIfInBounds_toArray, List.set_cons_zero, List.set_cons_succ])
                refine wpAnyH_done (by kernel_rfl) ?_ _
                have H8 : Hid _ := B2
                clear B0 B1 B2 hS
                obtain ⟨w8, rfl⟩ : ∃ w8, w8 = x2 := ⟨_, rfl⟩
                go_upto_region 30 with fail
                refine wp_region_held_drew (S := fun W => Below w8.heap.size w8 W) (by kernel_rfl) (Below.refl _ _).drew (fun hS => ?_)
                have B0 : Below w8.heap.size w8 w8.drew := (Below.refl _ _).drew
                refine any_take (i := 0) (v := (⟨x, za, zc⟩ : Lm7).v) rfl (by kernel_rfl) (by kernel_rfl) (by kernel_rfl) (by exact fun _ _ _ h => h) (by rfl) ?_ hS ?_
                · intro W hSW; exact exec_load rfl rfl (load_all size_pd agg_pd ((H7.out.2.2.2.1.laterB H8.out).laterB hSW))
                (try simp only [Act.put, List.setIfInBounds_toArray, List.set_cons_zero, List.set_cons_succ])
                refine any_take (i := 1) (v := optV hs ds mo) rfl (by kernel_rfl) (by kernel_rfl) (by kernel_rfl) (by exact fun _ _ _ h => h) (by rfl) ?_ hS ?_
                · intro W hSW; exact exec_load rfl rfl (HB.out W (below_then (below_then H7.out.2.1.2 H8.out) hSW))
                (try simp only [Act.put, List.setIfInBounds_toArray, List.set_cons_zero, List.set_cons_succ])
                refine any_one (i := 2) rfl (by kernel_rfl) (fun K hK => ?_)
                go_simp
                refine (Calls.mono (opts7 hs ds mo _)) ?_
                rintro e x1 ⟨rfl, hbR⟩
                have B1 : Below w8.heap.size w8 x1 := below_then B0 hbR
                go_wp2_with fail
                refine hK.out _ _ (by first | exact B1 | exact hbR | exact below_then hS hbR) (any_weaken (S' := fun W => Below x1.heap.size x1 W) (fun W hW => by first | exact below_then B1 hW | exact below_then hbR hW | exact below_then (below_then hS hbR) hW) _ _ _ _ ?_)
                clear hK K hS hbR
                have hS : Below x1.heap.size x1 x1 := Below.refl _ _
                refine any_one (i := 3) rfl (by kernel_rfl) (fun K hK => ?_)
                go_simp
                refine (Calls.mono (put7z ⟨x, za, zc⟩ hs ds mo _ (own_ok7 (H7.out.2.2.2.2.later (below_then H8.out B1)) H6.out.2.2.1.1.most) H6.out.2.2.1.2)) ?_
                rintro e x2 ⟨zb, rfl, oq, hbR⟩
                have B2 : Below w8.heap.size w8 x2 := below_then B1 hbR
                go_wp2_with fail
                refine hK.out _ _ (by first | exact B2 | exact hbR | exact below_then hS hbR) (any_weaken (S' := fun W => Below x2.heap.size x2 W) (fun W hW => by first | exact below_then B2 hW | exact below_then hbR hW | exact below_then (below_then hS hbR) hW) _ _ _ _ ?_)
                clear hK K hS hbR
                have hS : Below x2.heap.size x2 x2 := Below.refl _ _
                refine any_take (i := 4) (v := ?_) rfl (by kernel_rfl) (by kernel_rfl) (by kernel_rfl) (by exact fun _ _ _ h => h) (by rfl) ?_ hS ?_
                rotate_left
                · ((intro w hSw; (try dsimp only at hSw); go_simp) <;> with_reducible rfl)
                (try simp only [Act.put, List.setIfInBounds_toArray, List.set_cons_zero, List.set_cons_succ])
                refine any_take (i := 5) (v := ?_) rfl (by kernel_rfl) (by kernel_rfl) (by kernel_rfl) (by exact fun _ _ _ h => h) (by rfl) ?_ hS ?_
                rotate_left
                · ((intro w hSw; (try dsimp only at hSw); go_simp) <;> with_reducible rfl)
                (try simp only [Act.put, List.setIfInBounds_toArray, List.set_cons_zero, List.set_cons_succ])
                refine any_take (i := 6) (v := ?_) rfl (by kernel_rfl) (by kernel_rfl) (by kernel_rfl) (by exact fun _ _ _ h => h) (by rfl) ?_ hS ?_
                rotate_left
                · ((intro w hSw; (try dsimp only at hSw); go_simp) <;> with_reducible rfl)
                (try simp only [Act.put, List.setIfInBounds_toArray, List.set_cons_zero, List.set_cons_succ])
                refine any_take (i := 7) (v := ?_) rfl (by kernel_rfl) (by kernel_rfl) (by kernel_rfl) (by exact fun _ _ _ h => h) (by rfl) ?_ hS ?_
                rotate_left
                · ((intro w hSw; (try dsimp only at hSw); go_simp) <;> with_reducible rfl)
                (try simp only [Act.put, List.setIfInBounds_toArray, List.set_cons_zero, List.set_cons_succ])
                refine any_take (i := 8) (v := ?_) rfl (by kernel_rfl) (by kernel_rfl) (by kernel_rfl) (by exact fun _ _ _ h => h) (by rfl) ?_ hS ?_
                rotate_left
                · ((intro w hSw; (try dsimp only at hSw); go_simp) <;> with_reducible rfl)
                (try simp only [Act.put, List.setIfInBounds_toArray, List.set_cons_zero, List.set_cons_succ])
                refine wpAnyH_done (by kernel_rfl) ?_ _
                have oq : Own x2 x1.heap.size zb (x.enc hs ds) := oq
                have H9 : Hid _ := And.intro B2 oq
                clear B0 B1 B2 hS oq
                obtain ⟨w9, rfl⟩ : ∃ w9, w9 = x2 := ⟨_, rfl⟩
                go_upto_region 31 with fail
                refine wp_region_held_drew (S := fun W => Below w9.heap.size w9 W) (by kernel_rfl) (Below.refl _ _).drew (fun hS => ?_)
                have B0 : Below w9.heap.size w9 w9.drew := (Below.refl _ _).drew
                refine any_take (i := 0) (v := ?_) rfl (by kernel_rfl) (by kernel_rfl) (by kernel_rfl) (by exact fun _ _ _ h => h) (by rfl) ?_ hS ?_
                rotate_left
                · ((intro w hSw; (try dsimp only at hSw); go_simp) <;> with_reducible rfl)
                (try simp only [Act.put, List.setIfInBounds_toArray, List.set_cons_zero, List.set_cons_succ])
                refine any_take (i := 1) (v := ?_) rfl (by kernel_rfl) (by kernel_rfl) (by kernel_rfl) (by exact fun _ _ _ h => h) (by rfl) ?_ hS ?_
                rotate_left
                · ((intro w hSw; (try dsimp only at hSw); go_simp) <;> with_reducible rfl)
                (try simp only [Act.put, List.setIfInBounds_toArray, List.set_cons_zero, List.set_cons_succ])
                refine any_take (i := 2) (v := ?_) rfl (by kernel_rfl) (by kernel_rfl) (by kernel_rfl) (by exact fun _ _ _ h => h) (by rfl) ?_ hS ?_
                rotate_left
                · ((intro w hSw; (try dsimp only at hSw); go_simp) <;> with_reducible rfl)
                (try simp only [Act.put, List.setIfInBounds_toArray, List.set_cons_zero, List.set_cons_succ])
                refine any_take (i := 3) (v := (⟨x, Ya, Yc⟩ : Lm7).v) rfl (by kernel_rfl) (by kernel_rfl) (by kernel_rfl) (by exact fun _ _ _ h => h) (by rfl) ?_ hS ?_
                · intro W hSW; exact exec_load rfl rfl ((H7.out.2.2.1.later (below_then (below_then H8.out H9.out.1) hSW)).load)
                (try simp only [Act.put, List.setIfInBounds_toArray, List.set_cons_zero, List.set_cons_succ])
                refine any_take (i := 4) (v := optV hs ds mo) rfl (by kernel_rfl) (by kernel_rfl) (by kernel_rfl) (by exact fun _ _ _ h => h) (by rfl) ?_ hS ?_
                · intro W hSW; exact exec_load rfl rfl (HB.out W (below_then (below_then (below_then H7.out.2.1.2 H8.out) H9.out.1) hSW))
                (try simp only [Act.put, List.setIfInBounds_toArray, List.set_cons_zero, List.set_cons_succ])
                refine any_one (i := 5) rfl (by kernel_rfl) (fun K hK => ?_)
                go_simp
                refine (Calls.mono (rput7z ⟨x, Ya, Yc⟩ hs ds mo _ (DatOk.later H6.out.2.2.1.1 (below_then (below_then (below_then H7.out.2.1.1 H8.out) H9.out.1) hS)) H6.out.2.2.1.2)) ?_
                rintro e x1 ⟨zd, rfl, od, hbR⟩
                have B1 : Below w9.heap.size w9 x1 := below_then B0 hbR
                go_wp2_with fail
                refine hK.out _ _ (by first | exact B1 | exact hbR | exact below_then hS hbR) (any_weaken (S' := fun W => Below x1.heap.size x1 W) (fun W hW => by first | exact below_then B1 hW | exact below_then hbR hW | exact below_then (below_then hS hbR) hW) _ _ _ _ ?_)
                clear hK K hS hbR
                have hS : Below x1.heap.size x1 x1 := Below.refl _ _
                refine any_take (i := 6) (v := ?_) rfl (by kernel_rfl) (by kernel_rfl) (by kernel_rfl) (by exact fun _ _ _ h => h) (by rfl) ?_ hS ?_
                rotate_left
                · ((intro w hSw; (try dsimp only at hSw); go_simp) <;> with_reducible rfl)
                (try simp only [Act.put, List.setIfInBounds_toArray, List.set_cons_zero, List.set_cons_succ])
                refine any_take (i := 7) (v := ?_) rfl (by kernel_rfl) (by kernel_rfl) (by kernel_rfl) (by exact fun _ _ _ h => h) (by rfl) ?_ hS ?_
                rotate_left
                · ((intro w hSw; (try dsimp only at hSw); go_simp) <;> with_reducible rfl)
                (try simp only [Act.put, List.setIfInBounds_toArray, List.set_cons_zero, List.set_cons_succ])
                refine any_take (i := 8) (v := ?_) rfl (by kernel_rfl) (by kernel_rfl) (by kernel_rfl) (by exact fun _ _ _ h => h) (by rfl) ?_ hS ?_
                rotate_left
                · ((intro w hSw; (try dsimp only at hSw); go_simp) <;> with_reducible rfl)
                (try simp only [Act.put, List.setIfInBounds_toArray, List.set_cons_zero, List.set_cons_succ])
                refine any_take (i := 9) (v := ?_) rfl (by kernel_rfl) (by kernel_rfl) (by kernel_rfl) (by exact fun _ _ _ h => h) (by rfl) ?_ hS ?_
                rotate_left
                · ((intro w hSw; (try dsimp only at hSw); go_simp) <;> with_reducible rfl)
                (try simp only [Act.put, List.setIfInBounds_toArray, List.set_cons_zero, List.set_cons_succ])
                refine any_take (i := 10) (v := ?_) rfl (by kernel_rfl) (by kernel_rfl) (by kernel_rfl) (by exact fun _ _ _ h => h) (by rfl) ?_ hS ?_
                rotate_left
                · ((intro w hSw; (try dsimp only at hSw); go_simp) <;> with_reducible rfl)
                (try simp only [Act.put, List.setIfInBounds_toArray, List.set_cons_zero, List.set_cons_succ])
                refine wpAnyH_done (by kernel_rfl) ?_ _
                have od : Own x1 w9.heap.size zd (x.enc hs ds) := od
                obtain ⟨pa, pc, rfl, -, -, pr, -, -⟩ := (H9.out.2.later B1).open
                obtain ⟨ra, rc, rfl, -, -, rr, -, -⟩ := od.open
                have e1 := pr.str (x.enc hs ds).length pc rfl
                have e2 := rr.str (x.enc hs ds).length rc rfl
                have F : Hid _ := PbR.later H7.out.1 (below_then (below_then H8.out H9.out.1) B1)
                have hn8' := H6.out.2.2.2.2
                have hnb : (n' : Int) ≤ 100 := by have h1 := HI.out.1.few; have h2 := HP.out.2.2.2.2; omega
                clear od pr rr B0 B1 hS H7 H8 H9 H6 H5
                generalize x.enc hs ds = eb at *
                go_wp2_with fail
                go_roundw
                case rel => exact ⟨j + 1, n' + 1, q7, l', by go_num, by go_num, by omega, by omega, F.out⟩
                case measure => simp [intOf]; omega
          · have hdec : decide (i < 40 ∧ 0 < an) = false := decide_eq_false hlt'
            rw [hdec]
            clear hdec
            have ha0 : a = [] := by
              by_cases h1 : i < 40
              · exact List.eq_nil_of_length_eq_zero (by have := HAN.out; omega)
              · exact HR.out.2.1 (by omega)
            obtain ⟨hd, hl0⟩ := HR.out.2.2.1 ha0
            have hny := HR.out.2.2.2
            have hlen := congrArg List.length hd
            have hyl : (ltrs ys).length = ys.length := List.length_map ..
            rw [List.length_drop, hyl] at hlen
            have hnn : n = yn := by rw [HI.out.2.2]; simp at hlen; omega
            have HW : Hid (Below w.heap.size w wr) := by
              have h0 := HO.out.2.size
              have h1 := below_then HO.out.2 (below_then H2.out.2.1 HI.out.1.bel)
              exact h1.trans (HR.out.1.st.below w.heap.size h1.size (by have := H2.out.2.2.2; omega) (fun k e => by cases e)).1
            have N := pLeft_any g q hs ds mo l false wr HR.out.1.rd
            rw [hl0] at N
            subst hnn
            clear hlt' ha0 hd hl0 hny hlen hyl HR HP HI HA HB HO H2 HAN
            go_wp2_with fail
            refine N.mono ?_
            rintro r w5 ⟨rfl, rfl⟩
            clear N
            have N := known17_any w5
            go_wp2_with fail
            refine N.mono ?_
            rintro r w6 ⟨rfl, b6⟩
            clear N
            have F : Hid _ := below_then HW.out b6
            clear b6
            go_wp2
            go_ret
            exact ⟨by first | rfl | simp, F.out⟩
  · have N := pNew_no hs ds mo w1 (by cases h : okO mo with | true => exact absurd h hok | false => rfl)
    go_wp2_with fail
    refine N.mono ?_
    rintro r w2 ⟨rfl, b2⟩
    clear N
    have F : Hid _ := below_then (below_then HO.out.2 b1) b2
    have N := known17_any w2
    clear b1 b2
    go_wp2_with fail
    refine N.mono ?_
    rintro r w3 ⟨rfl, b3⟩
    clear N
    have F3 : Hid _ := below_then F.out b3
    clear b3 F
    go_wp2
    go_ret
    exact ⟨by first | rfl | simp, F3.out⟩
end Go.Proofs.Ytfcaaljehhibgaa
