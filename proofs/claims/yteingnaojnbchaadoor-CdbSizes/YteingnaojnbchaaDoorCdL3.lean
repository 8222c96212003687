/- The walk of CdbSizes. -/
import Derived.Test.YteingnaojnbchaaDoorCdG
import Derived.Test.YteingnaojnbchaaDoorCdF
import Derived.Test.YteingnaojnbchaaDoorCd8
import Derived.Test.YteingnaojnbchaaDoorAid
import Derived.Test.YteingnaojnbchaaDoorWrap
namespace Go.Proofs.YteingnaojnbchaaDoor
open Go.RowKit
set_option linter.unusedVariables false
set_option linter.unusedSimpArgs false
set_option maxRecDepth 4000

theorem sz_cases (op : Int) : szO op = 0 ∨ ((szO op = 6 ∨ szO op = 10 ∨ szO op = 12 ∨ szO op = 16) ∧ 0 ≤ op ∧ op ≤ 255) := by
  cases h : findR op with
  | none => left; unfold szO; rw [h]
  | some r =>
    right
    have h1 := (bu_free (vs := []) h).1
    refine ⟨?_, by omega, by omega⟩
    unfold szO; rw [h]
    show szK r.o = 6 ∨ szK r.o = 10 ∨ szK r.o = 12 ∨ szK r.o = 16
    unfold szK
    split
    · omega
    · split
      · omega
      · split <;> omega
theorem bu_size (op sv pv : Int) (vv : Bool) (tv : Int) (lb : BitVec 64) (nv : Int) :
    (∃ r, findR op = some r ∧ buR op sv pv vv tv lb nv = (some (wrF r.o (r.ps.zip (valB sv pv vv tv lb nv)) 6), 0)) ∨ ∃ E, buR op sv pv vv tv lb nv = (none, E) ∧ E ≠ 0 ∧ ∃ b : Bool, (E != 1) = b ∧ decide (szO op > 0) = b := by
  cases h : findR op with
  | none =>
    right
    refine ⟨1, by unfold buR buQ; rw [h], by decide, false, rfl, ?_⟩
    unfold szO; rw [h]; rfl
  | some r =>
    have h1 := (bu_free (vs := []) h).1
    have h2 : decide (szO op > 0) = true := decide_eq_true (by omega)
    rcases bu_cases op sv pv vv tv lb nv with ⟨r', hr', hb⟩ | ⟨E, hb, hE⟩
    · rw [h] at hr'
      obtain rfl := Option.some.inj hr'
      exact .inl ⟨r, rfl, hb⟩
    · refine .inr ⟨E, hb, hE, true, ?_, h2⟩
      unfold buR buQ at hb
      rw [h] at hb
      simp only at hb
      split at hb
      · split at hb
        · simp at hb
        · obtain rfl := (Prod.mk.inj hb).2; rfl
      · obtain rfl := (Prod.mk.inj hb).2; rfl
theorem zip_ok3 {op : Int} {r : CR} (h : findR op = some r) {vs : List (BitVec 64)} : ∀ q ∈ r.ps.zip vs, PlOk q.1.1 q.1.2 := by
  intro q hq
  obtain ⟨o, a0, b0, a1, b1, a2, b2, a3, b3, a4, b4, a5, b5, rfl, ho, p0, p1, p2, p3, p4, p5, -⟩ := (findR_ok h).1.six
  have h1 := (List.of_mem_zip hq).1
  simp only [List.mem_cons, List.not_mem_nil, or_false] at h1
  rcases h1 with h1 | h1 | h1 | h1 | h1 | h1 <;> rw [h1] <;> assumption
set_option maxHeartbeats 16000000 in
theorem cdbSizes_walk (c0 c1 c2 : Int) (c3 : Bool) (c4 : Int) (c5 : BitVec 64) (c6 op : Int) (w : World) (hT : TblAt w) (hS : SizAt w) (B0 : I64 c0 ∧ I64 c1 ∧ I64 c2 ∧ I64 c4 ∧ I64 c6) (hop : -9223372036854775808 ≤ op ∧ op ≤ 9223372036854775807) :
    Calls Tryd.prog 5 #[.agg #[.int .i64 c0, .int .i64 c1, .int .i64 c2, .bool c3, .int .i64 c4, .int .u64 (c5.toNat : Int), .int .i64 c6], .int .i64 op] w fun e w' => e = .returned (.bool true) ∧ Below w.heap.size w w' := by
  clear B0
  have B0 := Blk.new' w 42 [.int .i64 c0, .int .i64 c1, .int .i64 c2, .bool c3, .int .i64 c4, .int .u64 (c5.toNat : Int), .int .i64 c6]
  have b0_ : Below w.heap.size w (w.alloc (.cells #[.int .i64 c0, .int .i64 c1, .int .i64 c2, .bool c3, .int .i64 c4, .int .u64 (c5.toNat : Int), .int .i64 c6] 42)) := (Below.refl _ _).alloc (Nat.le_refl _) _
  obtain ⟨w0, hw0⟩ : ∃ w0, w0 = w.alloc (.cells #[.int .i64 c0, .int .i64 c1, .int .i64 c2, .bool c3, .int .i64 c4, .int .u64 (c5.toNat : Int), .int .i64 c6] 42) := ⟨_, rfl⟩
  rw [← hw0] at B0 b0_
  have H0 : Hid (Blk w0 w.heap.size 42 [.int .i64 c0, .int .i64 c1, .int .i64 c2, .bool c3, .int .i64 c4, .int .u64 (c5.toNat : Int), .int .i64 c6] ∧ Below w.heap.size w w0) := ⟨B0, b0_⟩
  have HT : Hid (∀ X, Below w.heap.size w X → TblAt X ∧ SizAt X) := fun X bX => ⟨hT.later bX, hS.later bX⟩
  clear B0 b0_ hT hS hop
  have HN : Hid _ := sz_cases op
  have HZ : Hid _ := cSizeOp_any op w0 (HT.out _ H0.out.2).1 (HT.out _ H0.out.2).2
  go_enter Tryd.func5, Tryd.ntmps5
  go_upto_region 1 with fail
  rw [← hw0]
  clear hw0
  go_wp2_with fail
  refine (Calls.mono HZ.out) ?_
  rintro e w1 ⟨rfl, b1⟩
  have H1 : Hid (Blk w1 w.heap.size 42 [.int .i64 c0, .int .i64 c1, .int .i64 c2, .bool c3, .int .i64 c4, .int .u64 (c5.toNat : Int), .int .i64 c6] ∧ Below w.heap.size w w1) := ⟨H0.out.1.laterB b1, below_then H0.out.2 b1⟩
  clear b1 H0 HZ
  have hn := HN.out
  clear HN
  generalize szO op = n at *
  have y0 := ck_at H1.out.1 0
  have y1 := ck_at H1.out.1 1
  have y2 := ck_at H1.out.1 2
  have y3 := ck_at H1.out.1 3
  have y4 := ck_at H1.out.1 4
  have y5 := ck_at H1.out.1 5
  have y6 := ck_at H1.out.1 6
  simp only [List.getElem?_cons_zero, List.getElem?_cons_succ] at y0 y1 y2 y3 y4 y5 y6
  rcases hn with rfl | ⟨rfl | rfl | rfl | rfl, q1, q2⟩
  all_goals
    go_upto_region 4 with fail
    go_wp2_with fail
    clear y0 y1 y2 y3 y4 y5 y6
    refine (Calls.mono (given15_any c0 c1 c2 c3 c4 (c5.toNat : Int) c6 w1)) ?_
    rintro e w2 ⟨rfl, b2⟩
    have H2 : Hid (Blk w2 w.heap.size 42 [.int .i64 c0, .int .i64 c1, .int .i64 c2, .bool c3, .int .i64 c4, .int .u64 (c5.toNat : Int), .int .i64 c6] ∧ Below w.heap.size w w2) := ⟨H1.out.1.laterB b2, below_then H1.out.2 b2⟩
    clear b2 H1
    have HB : Hid _ := cBuild_any c0 c1 c2 c3 c4 c5 c6 w2 (HT.out _ H2.out.2).1
    go_wp2_with fail
    refine (Calls.mono HB.out) ?_
    rintro e w3 ⟨z, rfl, hz, b3⟩
    have H3 : Hid (Blk w3 w.heap.size 42 [.int .i64 c0, .int .i64 c1, .int .i64 c2, .bool c3, .int .i64 c4, .int .u64 (c5.toNat : Int), .int .i64 c6] ∧ Below w.heap.size w w3) := ⟨H2.out.1.laterB b3, below_then H2.out.2 b3⟩
    clear b3 HB H2
    have HZ : Hid _ := cSizeOp_any c0 w3 (HT.out _ H3.out.2).1 (HT.out _ H3.out.2).2
    have y0 := ck_at H3.out.1 0
    simp only [List.getElem?_cons_zero, List.getElem?_cons_succ] at y0
    rcases bu_size c0 c1 c2 c3 c4 c5 c6 with ⟨r, hr, hb⟩ | ⟨E, hb, hE, b, d1, d2⟩
    · rw [hb] at hz
      rw [show (buR c0 c1 c2 c3 c4 c5 c6).2 = 0 from by rw [hb]]
      clear hb
      have hlen := wrF_len (o := r.o) (zip_ok3 hr (vs := valB c1 c2 c3 c4 c5 c6)) 6
      have hfr := bu_free (vs := valB c1 c2 c3 c4 c5 c6) hr
      obtain ⟨L, hLe⟩ : ∃ L, L = wrF r.o (r.ps.zip (valB c1 c2 c3 c4 c5 c6)) 6 := ⟨_, rfl⟩
      have o3 : Own w3 w2.heap.size z L := by rw [hLe]; exact hz
      rw [← hLe] at hlen hfr
      clear hLe hr hz
      obtain ⟨az, cap, rfl, hle, hmx, hrw, hnn, hbs⟩ := o3.open
      have hne : az ≠ none := fun h => by have := hnn h; omega
      obtain ⟨ad, rfl⟩ := Option.ne_none_iff_exists'.1 hne
      obtain ⟨g, rfl, hg⟩ := hbs ad rfl
      have ho3 : w3.ownsRow w2.heap.size 5 1 (.slice (some ⟨g, 0, none⟩) 16 cap) 16 (vals L) := by have := o3; unfold Own at this; rw [hlen] at this; exact this
      have HC : Hid (∀ i : Nat, i < 16 → w3.cell? ⟨g, i, none⟩ = some (.int .u8 (bt L i))) := fun i hi => by have h := World.ownsRow.cellAt ho3 i hi; rw [vals_at _ _ (by omega)] at h; exact h
      rw [hlen]
      clear hne hnn hbs o3 ho3 hrw hle hmx hlen hg
      have HF : Hid _ := hfr
      clear hfr
      generalize szO c0 = K at *
      go_wp2_with fail
      refine (Calls.mono HZ.out) ?_
      rintro e w4 ⟨rfl, b4⟩
      have H4 : Hid (Below w3.heap.size w3 w4) := b4
      clear b4 HZ y0
      have q6 : decide (K < 6) = false := decide_eq_false (by have := HF.out.1; omega)
      have vw : IntKind.i64.wrap c0 = c0 := by have := HF.out.1; rw [IntKind.wrap_i64]; omega
      have x0 : w4.cell? ⟨g, 0, none⟩ = some (.int .u8 c0) := by have h := ck_later (HC.out 0 (by omega)) H4.out; rw [HF.out.2.1] at h; exact h
      have y0 : w4.cell? ⟨w.heap.size, 0, none⟩ = some (.int .i64 c0) := ck_later (ck_at H3.out.1 0) H4.out
      have HX : Hid _ := And.intro x0 y0
      clear x0 y0
      go_upto_region 8 with fail
      refine wp_region_held_drew (S := fun W => Below w4.heap.size w4 W) (by kernel_rfl) ((Below.refl _ _).drew) (fun hS => ?_)
      have B0 : Below w4.heap.size w4 w4.drew := ((Below.refl _ _).drew)
      refine any_take (i := 0) (v := ?_) rfl (by kernel_rfl) (by kernel_rfl) (by kernel_rfl) (by exact fun _ _ _ h => h) (by rfl) ?_ hS ?_
      rotate_left
      · ((intro w hSw; have x0 := ck_later HX.out.1 hSw; have y0 := ck_later HX.out.2 hSw; go_simp) <;> with_reducible rfl)
      (try simp only [Act.put, List.setIfInBounds_toArray, List.set_cons_zero, List.set_cons_succ])
      refine any_take (i := 1) (v := ?_) rfl (by kernel_rfl) (by kernel_rfl) (by kernel_rfl) (by exact fun _ _ _ h => h) (by rfl) ?_ hS ?_
      rotate_left
      · ((intro w hSw; have x0 := ck_later HX.out.1 hSw; have y0 := ck_later HX.out.2 hSw; go_simp) <;> with_reducible rfl)
      (try simp only [Act.put, List.setIfInBounds_toArray, List.set_cons_zero, List.set_cons_succ])
      refine any_take (i := 2) (v := ?_) rfl (by kernel_rfl) (by kernel_rfl) (by kernel_rfl) (by exact fun _ _ _ h => h) (by rfl) ?_ hS ?_
      rotate_left
      · ((intro w hSw; have x0 := ck_later HX.out.1 hSw; have y0 := ck_later HX.out.2 hSw; go_simp) <;> with_reducible rfl)
      (try simp only [Act.put, List.setIfInBounds_toArray, List.set_cons_zero, List.set_cons_succ])
      refine any_take (i := 3) (v := ?_) rfl (by kernel_rfl) (by kernel_rfl) (by kernel_rfl) (by exact fun _ _ _ h => h) (by rfl) ?_ hS ?_
      rotate_left
      · ((intro w hSw; have x0 := ck_later HX.out.1 hSw; have y0 := ck_later HX.out.2 hSw; go_simp) <;> with_reducible rfl)
      (try simp only [Act.put, List.setIfInBounds_toArray, List.set_cons_zero, List.set_cons_succ])
      refine any_take (i := 4) (v := ?_) rfl (by kernel_rfl) (by kernel_rfl) (by kernel_rfl) (by exact fun _ _ _ h => h) (by rfl) ?_ hS ?_
      rotate_left
      · ((intro w hSw; have x0 := ck_later HX.out.1 hSw; have y0 := ck_later HX.out.2 hSw; go_simp) <;> with_reducible rfl)
      (try simp only [Act.put, List.setIfInBounds_toArray, List.set_cons_zero, List.set_cons_succ])
      refine any_take (i := 5) (v := ?_) rfl (by kernel_rfl) (by kernel_rfl) (by kernel_rfl) (by exact fun _ _ _ h => h) (by rfl) ?_ hS ?_
      rotate_left
      · ((intro w hSw; have x0 := ck_later HX.out.1 hSw; have y0 := ck_later HX.out.2 hSw; go_simp) <;> with_reducible rfl)
      (try simp only [Act.put, List.setIfInBounds_toArray, List.set_cons_zero, List.set_cons_succ])
      refine any_take (i := 6) (v := ?_) rfl (by kernel_rfl) (by kernel_rfl) (by kernel_rfl) (by exact fun _ _ _ h => h) (by rfl) ?_ hS ?_
      rotate_left
      · ((intro w hSw; have x0 := ck_later HX.out.1 hSw; have y0 := ck_later HX.out.2 hSw; go_simp) <;> with_reducible rfl)
      (try simp only [Act.put, List.setIfInBounds_toArray, List.set_cons_zero, List.set_cons_succ])
      refine any_take (i := 7) (v := ?_) rfl (by kernel_rfl) (by kernel_rfl) (by kernel_rfl) (by exact fun _ _ _ h => h) (by rfl) ?_ hS ?_
      rotate_left
      · ((intro w hSw; have x0 := ck_later HX.out.1 hSw; have y0 := ck_later HX.out.2 hSw; go_simp) <;> with_reducible rfl)
      (try simp only [Act.put, List.setIfInBounds_toArray, List.set_cons_zero, List.set_cons_succ])
      refine any_take (i := 8) (v := ?_) rfl (by kernel_rfl) (by kernel_rfl) (by kernel_rfl) (by exact fun _ _ _ h => h) (by rfl) ?_ hS ?_
      rotate_left
      · ((intro w hSw; have x0 := ck_later HX.out.1 hSw; have y0 := ck_later HX.out.2 hSw; go_simp) <;> with_reducible rfl)
      (try simp only [Act.put, List.setIfInBounds_toArray, List.set_cons_zero, List.set_cons_succ])
      refine any_take (i := 9) (v := ?_) rfl (by kernel_rfl) (by kernel_rfl) (by kernel_rfl) (by exact fun _ _ _ h => h) (by rfl) ?_ hS ?_
      rotate_left
      · ((intro w hSw; have x0 := ck_later HX.out.1 hSw; have y0 := ck_later HX.out.2 hSw; go_simp) <;> with_reducible rfl)
      (try simp only [Act.put, List.setIfInBounds_toArray, List.set_cons_zero, List.set_cons_succ])
      refine any_take (i := 10) (v := ?_) rfl (by kernel_rfl) (by kernel_rfl) (by kernel_rfl) (by exact fun _ _ _ h => h) (by rfl) ?_ hS ?_
      rotate_left
      · ((intro w hSw; have x0 := ck_later HX.out.1 hSw; have y0 := ck_later HX.out.2 hSw; go_simp) <;> with_reducible rfl)
      (try simp only [Act.put, List.setIfInBounds_toArray, List.set_cons_zero, List.set_cons_succ])
      refine any_take (i := 11) (v := ?_) rfl (by kernel_rfl) (by kernel_rfl) (by kernel_rfl) (by exact fun _ _ _ h => h) (by rfl) ?_ hS ?_
      rotate_left
      · ((intro w hSw; have x0 := ck_later HX.out.1 hSw; have y0 := ck_later HX.out.2 hSw; go_simp) <;> with_reducible rfl)
      (try simp only [Act.put, List.setIfInBounds_toArray, List.set_cons_zero, List.set_cons_succ])
      refine any_take (i := 12) (v := ?_) rfl (by kernel_rfl) (by kernel_rfl) (by kernel_rfl) (by exact fun _ _ _ h => h) (by rfl) ?_ hS ?_
      rotate_left
      · ((intro w hSw; have x0 := ck_later HX.out.1 hSw; have y0 := ck_later HX.out.2 hSw; go_simp) <;> with_reducible rfl)
      (try simp only [Act.put, List.setIfInBounds_toArray, List.set_cons_zero, List.set_cons_succ])
      refine any_take (i := 13) (v := ?_) rfl (by kernel_rfl) (by kernel_rfl) (by kernel_rfl) (by exact fun _ _ _ h => h) (by rfl) ?_ hS ?_
      rotate_left
      · ((intro w hSw; have x0 := ck_later HX.out.1 hSw; have y0 := ck_later HX.out.2 hSw; go_simp) <;> with_reducible rfl)
      (try simp only [Act.put, List.setIfInBounds_toArray, List.set_cons_zero, List.set_cons_succ])
      refine any_take (i := 14) (v := ?_) rfl (by kernel_rfl) (by kernel_rfl) (by kernel_rfl) (by exact fun _ _ _ h => h) (by rfl) ?_ hS ?_
      rotate_left
      · ((intro w hSw; have x0 := ck_later HX.out.1 hSw; have y0 := ck_later HX.out.2 hSw; go_simp) <;> with_reducible rfl)
      (try simp only [Act.put, List.setIfInBounds_toArray, List.set_cons_zero, List.set_cons_succ])
      refine any_take (i := 15) (v := ?_) rfl (by kernel_rfl) (by kernel_rfl) (by kernel_rfl) (by exact fun _ _ _ h => h) (by rfl) ?_ hS ?_
      rotate_left
      · ((intro w hSw; have x0 := ck_later HX.out.1 hSw; have y0 := ck_later HX.out.2 hSw; go_simp) <;> with_reducible rfl)
      (try simp only [Act.put, List.setIfInBounds_toArray, List.set_cons_zero, List.set_cons_succ])
      refine wpAnyH_done (by kernel_rfl) ?_ _
      have H5 : Hid _ := below_then H4.out B0
      clear hS B0 HX H4
      have q7 : IntKind.i64.wrap (K - 1) = K - 1 := by have := HF.out.1; rw [IntKind.wrap_i64]; omega
      go_wp2_with fail
      go_loopw [9] (fun iv wr => ∃ i : Nat, K - 1 ≤ (i : Int) ∧ i ≤ 16 ∧ iv = .int .i64 i ∧ Below w3.heap.size w3 wr) (fun iv _ => 16 - (intOf iv).toNat)
      case atStart => exact ⟨(K - 1).toNat, by omega, by have := HF.out.1; omega, by rw [Int.toNat_of_nonneg (by have := HF.out.1; omega)], H5.out⟩
      case round =>
        clear H5
        obtain ⟨i, hi1, hi2, rfl, hbw⟩ := hrel
        by_cases hlt : i < 16
        · have cx := ck_later (HC.out i hlt) hbw
          rw [HF.out.2.2 i hlt hi1] at cx
          have q9 : (i : Int) < 16 := by omega
          have G : Hid _ := hbw
          clear hbw
          go_wp2
          go_roundw
          case rel => exact ⟨i + 1, by omega, by omega, by go_num, G.out⟩
          case measure => simp [intOf]; omega
        · obtain rfl : i = 16 := by omega
          have G : Hid _ := below_then H3.out.2 hbw
          clear hbw hi1 hi2 hlt
          go_wp2_with fail
          refine (Calls.mono (known15_any wr (HT.out _ (G.out)).1)) ?_
          rintro e w9 ⟨rfl, b9⟩
          have F : Hid _ := below_then (G.out) b9
          clear b9
          go_wp2
          go_ret
          exact ⟨rfl, F.out⟩
    · rw [show (buR c0 c1 c2 c3 c4 c5 c6).2 = E from by rw [hb]]
      rw [hb] at hz
      have ez : z = .slice none 0 0 := hz
      subst ez
      have d0 : (E != 0) = true := by simpa using hE
      clear hb hz hE
      generalize szO c0 = K at *
      cases b
      · go_wp2_with fail
        refine (Calls.mono HZ.out) ?_
        rintro e w4 ⟨rfl, b4⟩
        have G : Hid _ := below_then H3.out.2 b4
        clear b4 HZ y0
        go_wp2_with fail
        refine (Calls.mono (known15_any w4 (HT.out _ (G.out)).1)) ?_
        rintro e w9 ⟨rfl, b9⟩
        have F : Hid _ := below_then (G.out) b9
        clear b9
        go_wp2
        go_ret
        exact ⟨rfl, F.out⟩
      · go_wp2_with fail
        refine (Calls.mono HZ.out) ?_
        rintro e w4 ⟨rfl, b4⟩
        have G : Hid _ := below_then H3.out.2 b4
        clear b4 HZ y0
        go_wp2_with fail
        refine (Calls.mono (known15_any w4 (HT.out _ (G.out)).1)) ?_
        rintro e w9 ⟨rfl, b9⟩
        have F : Hid _ := below_then (G.out) b9
        clear b9
        go_wp2
        go_ret
        exact ⟨rfl, F.out⟩
end Go.Proofs.YteingnaojnbchaaDoor
