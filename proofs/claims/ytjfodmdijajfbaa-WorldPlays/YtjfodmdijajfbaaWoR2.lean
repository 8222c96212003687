/- The document's clocks that tick, its cuts, its letters. -/
import Derived.Test.YtjfodmdijajfbaaWoR1
namespace Go.Proofs.Ytjfodmdijajfbaa
open Go.RowKit
set_option linter.unusedVariables false
set_option maxRecDepth 4000

theorem may_iff {m : Wm} (hw : m.Wf) (x : Nat) (hx : x < m.ck.length) : (∀ k, k < m.ck.length → k ≠ x → m.ck.getD x 0 + 1 ≤ m.ck.getD k 0 + m.rho) ↔ m.ck.getD x 0 + 1 ≤ m.rho + minC m.ck := by
  have gm : ∀ k, k < m.ck.length → m.ck.getD k 0 ∈ m.ck := fun k hk => by rw [List.getD, List.getElem?_eq_getElem hk]; exact List.getElem_mem hk
  constructor
  · intro h
    have hm := minC_mem (l := m.ck) (fun e => by rw [e] at hx; simp at hx)
    obtain ⟨k, hk, he⟩ := List.getElem_of_mem hm
    have hz : m.ck.getD k 0 = minC m.ck := by rw [List.getD, List.getElem?_eq_getElem hk, he]; rfl
    by_cases e : k = x
    · subst e; rw [hz]; have := hw.rho1; omega
    · have := h k hk e; omega
  · intro h k hk _
    have := minC_le _ (gm k hk)
    omega
set_option maxHeartbeats 2000000 in
theorem rwMay_any (g : Nat) (p : Wp) (m : Wm) (i : Int) (w : World) (h : (rw8 g p m).Ok w) (hw : m.Wf) (hi : I64 i) :
    Calls Try.prog 60 #[.pointer (some ⟨g, 0, none⟩), .int .i64 i] w fun e w' => e = .returned (.bool (m.may i)) ∧ Below w.heap.size w w' := by
  have HH : Hid _ := rwin_any g p m i w h hw hi
  obtain ⟨hn, fv, vs, hq, hD⟩ := h.holds
  obtain ⟨c0, c1, -, -, c4, -⟩ := rw_cells hD
  unfold Wm.may
  by_cases hb : hasW m.ck.length i = true
  · rw [hb] at HH ⊢
    rw [Bool.true_and]
    obtain ⟨x, rfl, hx⟩ := at_ck hb
    obtain ⟨cc, -⟩ := rck_cell hD x hx
    have hl := ck_late hw x
    have q1 : (x : Int) < (m.ck.length : Int) := by omega
    have hr2 := hw.rho2
    have h5 := hw.five
    have HI : Hid _ := may_iff hw x hx
    rw [Int.toNat_natCast]
    by_cases hlt : m.ck.getD x 0 < 1099511627776
    · rw [decide_eq_true hlt, Bool.true_and]
      have HF : Hid _ := hD
      obtain ⟨R, hR⟩ : ∃ R, R = decide (m.ck.getD x 0 + 1 ≤ m.rho + minC m.ck) := ⟨_, rfl⟩
      rw [← hR]
      have HR : Hid _ := hR
      have HL : Hid _ := ck_late hw
      generalize hZ : ((m.ck.getD x 0 : Nat) : Int) = Z at *
      have HZ : Hid _ := hZ
      have q2 : Z < 1099511627776 := by omega
      have q3 : 0 ≤ Z := by omega
      have q4 : (m.rho : Int) ≤ 1000 := by omega
      clear h hw hb hn hq hlt hl hr2 hR hD hZ
      go_enter Try.func60, Try.ntmps60
      go_wp2_with (go_at_call 93; refine (Calls.mono HH.out) ?_; rintro e w' ⟨rfl, rfl⟩)
      go_loopw [5] (fun kv wr => ∃ k : Nat, k ≤ m.ck.length ∧ kv = .int .i64 k ∧ (∀ j, j < k → j ≠ x → m.ck.getD x 0 + 1 ≤ m.ck.getD j 0 + m.rho) ∧ Below w.heap.size w wr) (fun kv _ => m.ck.length - (intOf kv).toNat)
      case atStart => exact ⟨0, by omega, rfl, (fun j hj => by omega), Below.refl _ _⟩
      case round =>
        obtain ⟨k, hk, rfl, hall, hB⟩ := hrel
        have d0 := cell_later hB c0
        have d1 := cell_later hB c1
        have d4 := cell_later hB c4
        have dc := cell_later hB cc
        have K : Hid _ := And.intro hall hB
        clear hall c0 c1 c4 cc HH
        by_cases hkl : k < m.ck.length
        · have q5 : (k : Int) < (m.ck.length : Int) := by omega
          have dck := cell_later hB (rck_cell HF.out k hkl).1
          have hkx : k = x ∨ k ≠ x := by omega
          rcases hkx with rfl | hne
          · clear hB dck HF
            go_wp2_with fail
            go_quiet (fail)
            go_wp2
            go_roundw
            case rel => exact ⟨k + 1, by omega, by go_num, (fun j hj hn => K.out.1 j (by omega) hn), below_then K.out.2 (below_drewN _ _ _)⟩
            case measure => simp [intOf]; omega
          · have hl2 := HL.out k
            have e1 : ((k : Int) != (x : Int)) = true := by simp; omega
            generalize hC : ((m.ck.getD k 0 : Nat) : Int) = C at *
            have HC : Hid _ := hC
            have p1 : C ≤ 1099511627776 := by omega
            have p2 : 0 ≤ C := by omega
            clear hl2 hC hB HF
            by_cases hgt : (m.rho : Int) < Z + 1 - C
            · have hd : decide ((m.rho : Int) < Z + 1 - C) = true := decide_eq_true hgt
              have HE : Hid (R = false) := by
                show R = false
                rw [HR.out]
                refine decide_eq_false (fun e => ?_)
                have h1 := HI.out.2 e k hkl hne
                have h2 := HZ.out
                have h3 := HC.out
                omega
              clear hgt
              go_wp2_with fail
              go_quiet (fail)
              go_wp2
              go_ret
              exact ⟨ret_bool HE.out.symm, below_then K.out.2 (below_drewN _ _ _)⟩
            · have hd : decide ((m.rho : Int) < Z + 1 - C) = false := decide_eq_false hgt
              have HE : Hid (m.ck.getD x 0 + 1 ≤ m.ck.getD k 0 + m.rho) := by
                have h2 := HZ.out
                have h3 := HC.out
                show _ ≤ _
                omega
              clear hgt
              go_wp2_with fail
              go_quiet (fail)
              go_wp2
              go_roundw
              case rel => exact ⟨k + 1, by omega, by go_num, (fun j hj hn => by
                by_cases e : j = k
                · subst e; exact HE.out
                · exact K.out.1 j (by omega) hn), below_then K.out.2 (below_drewN _ _ _)⟩
              case measure => simp [intOf]; omega
        · obtain rfl : k = m.ck.length := by omega
          have HE : Hid (R = true) := by
            show R = true
            rw [HR.out]
            exact decide_eq_true (HI.out.1 K.out.1)
          clear hB HF
          go_wp2
          go_ret
          exact ⟨ret_bool HE.out.symm, K.out.2⟩
    · rw [decide_eq_false hlt, Bool.false_and]
      generalize hZ : ((m.ck.getD x 0 : Nat) : Int) = Z at *
      have q2 : ¬ (Z < 1099511627776) := by omega
      clear h hw hb hn hq hD hlt hl hr2 HI hZ
      go_enter Try.func60, Try.ntmps60
      go_wp2_with (go_at_call 93; refine (Calls.mono HH.out) ?_; rintro e w' ⟨rfl, rfl⟩)
      go_ret
      exact ⟨rfl, Below.refl _ _⟩
  · have hf : hasW m.ck.length i = false := by simpa using hb
    rw [hf] at HH ⊢
    rw [Bool.false_and]
    clear h hw hb hD
    go_enter Try.func60, Try.ntmps60
    go_wp2_with (go_at_call 93; refine (Calls.mono HH.out) ?_; rintro e w' ⟨rfl, rfl⟩)
    go_ret
    exact ⟨rfl, Below.refl _ _⟩
set_option maxHeartbeats 1000000 in
theorem rwTick_any (g : Nat) (p : Wp) (m : Wm) (i : Int) (w : World) (h : (rw8 g p m).Ok w) (hw : m.Wf) (hi : I64 i) :
    Calls Try.prog 57 #[.pointer (some ⟨g, 0, none⟩), .int .i64 i] w fun e w' => e = .returned (.int .i64 (m.tickE i)) ∧ Step w w' (rw8 g p m) (rw8 g p (m.tick i)) := by
  have HH : Hid _ := rwin_any g p m i w h hw hi
  have HM : Hid _ := rwMay_any g p m i w h hw hi
  unfold Wm.tick Wm.tickE
  by_cases hb : hasW m.ck.length i = true
  · rw [hb] at HH
    rw [if_pos hb]
    obtain ⟨x, rfl, hx⟩ := at_ck hb
    by_cases hm : m.may x = true
    · rw [hm] at HM
      rw [if_pos hm, if_pos hm, Int.toNat_natCast]
      have hl := ck_late hw x
      have K : Hid _ := And.intro h hw
      have q1 : (x : Int) < (m.ck.length : Int) := by omega
      clear h hw hb hm
      go_enter Try.func57, Try.ntmps57
      go_wp2_with (first
        | (go_at_call 93; refine (Calls.mono HH.out) ?_; rintro e w' ⟨rfl, rfl⟩)
        | fail)
      refine (Calls.mono HM.out) ?_
      rintro e w1 ⟨rfl, b1⟩
      obtain ⟨h, hw⟩ := K.out
      have h1 := h.later b1
      obtain ⟨hn, fv, vs, hq, hD⟩ := h1.holds
      obtain ⟨-, -, -, -, c4, -⟩ := rw_cells hD
      obtain ⟨cc, cf⟩ := rck_cell hD x hx
      have hS : Hid _ := (Step.quiet h b1).trans (rw_clock h1 hq hD x (m.ck.getD x 0 + 1))
      have hz : Hid ((((m.ck.getD x 0 + 1 : Nat)) : Int) = ((m.ck.getD x 0 : Nat) : Int) + 1) := by show _ = _; omega
      generalize hgz : ((m.ck.getD x 0 : Nat) : Int) = Z at *
      have q2 : Z ≤ 1099511627776 := by omega
      have q3 : 0 ≤ Z := by omega
      rw [hz.out] at hS
      clear h1 hn hq hD h hw K HM hl hgz hz
      go_wp2
      go_ret
      exact ⟨rfl, hS.out⟩
    · have hf : m.may x = false := by simpa using hm
      rw [hf] at HM
      rw [if_neg hm, if_neg hm]
      have K : Hid _ := h
      clear h hw hb hm hf
      go_enter Try.func57, Try.ntmps57
      go_wp2_with (first
        | (go_at_call 93; refine (Calls.mono HH.out) ?_; rintro e w' ⟨rfl, rfl⟩)
        | (go_at_call 60; refine (Calls.mono HM.out) ?_; rintro e w1 ⟨rfl, b1⟩))
      go_ret
      exact ⟨rfl, Step.quiet K.out b1⟩
  · have hf : hasW m.ck.length i = false := by simpa using hb
    rw [hf] at HH
    rw [if_neg hb, if_neg (fun e => hb (may_has e))]
    have K : Hid _ := h
    clear h hw hb hf HM
    go_enter Try.func57, Try.ntmps57
    go_wp2_with (go_at_call 93; refine (Calls.mono HH.out) ?_; rintro e w' ⟨rfl, rfl⟩)
    go_ret
    exact ⟨rfl, Step.refl K.out⟩
theorem rw_letter {w : World} {g c : Nat} {V : List Nat} {fv : Value} {vs : List Value} {m : Wm} (h : RwAt w g c V fv vs m) (k : Nat) (hk : k < m.fl.length) :
    ∃ qb qc a cap, fv = .slice (some ⟨qb, 0, none⟩) m.fl.length qc ∧ m.fl.length ≤ qc ∧ w.cell? ⟨qb, k * 3, none⟩ = some (.int .i64 (m.fl[k].1 : Nat)) ∧ w.cell? ⟨qb, k * 3 + 1, none⟩ = some (.int .i64 (m.fl[k].2.1 : Nat)) ∧ w.cell? ⟨qb, k * 3 + 2, none⟩ = some (.slice a m.fl[k].2.2.length cap) ∧
      m.fl[k].2.2.length ≤ cap ∧ Row w a m.fl[k].2.2 ∧ (a = none → cap = 0) ∧ ∀ y, a = some y → y.block ∈ V := by
  obtain ⟨a, cap, e0, e1, e2, r1, r2, r3, r4⟩ := h.each.get k hk
  have hl := h.each.length
  have hL := h.letters
  obtain ⟨h1, ⟨h2, h3⟩ | ⟨qb, qc, cur, rfl, hb, hh, hc, hm, hs, ht⟩⟩ := id hL
  · omega
  · have f : ∀ i, i < m.fl.length * 3 → w.cell? ⟨qb, i, none⟩ = vs[i]? := fun i hi => World.ownsRow.cellAt hL i hi
    exact ⟨qb, qc, a, cap, rfl, hc, (f _ (by omega)).trans e0, (f _ (by omega)).trans e1, (f _ (by omega)).trans e2, r1, r2, r3, r4⟩
set_option maxHeartbeats 1000000 in
theorem rwLook_no (g : Nat) (p : Wp) (m : Wm) (k : Int) (w : World) (h : (rw8 g p m).Ok w) (hw : m.Wf) (hk : I64 k) (hn : ¬ (0 ≤ k ∧ k < m.fl.length)) :
    Calls Try.prog 58 #[.pointer (some ⟨g, 0, none⟩), .int .i64 k] w fun e w' => e = .returned (.tuple #[lz, .int .i64 1]) ∧ Below w.heap.size w w' := by
  have b0 : Below w.heap.size w (w.alloc (.cells #[.int .i64 0, .int .i64 0, .slice none 0 0] 51)) := (Below.refl _ _).alloc (Nat.le_refl _) _
  obtain ⟨hnd, fv, vs, hq, hD⟩ := (h.later b0).holds
  obtain ⟨-, -, c2, -⟩ := rw_cells hD
  obtain ⟨fa, fc, rfl⟩ := wo_form hD.letters
  have hfu := hw.full
  have H1 : Hid _ := b0
  clear b0 hD hnd hq h hw
  unfold lz
  by_cases h0 : k < 0
  · go_enter Try.func58, Try.ntmps58
    go_wp2
    refine bodyPost_ret (v := .tuple #[.agg #[.int .i64 0, .int .i64 0, .slice none 0 0], .int .i64 1]) (by simp [results, Try.results58, go_sem]) rfl ?_
    exact ⟨rfl, H1.out⟩
  · have h1 : ¬ (k < (m.fl.length : Int)) := fun e => hn ⟨by omega, e⟩
    go_enter Try.func58, Try.ntmps58
    go_wp2
    refine bodyPost_ret (v := .tuple #[.agg #[.int .i64 0, .int .i64 0, .slice none 0 0], .int .i64 1]) (by simp [results, Try.results58, go_sem]) rfl ?_
    exact ⟨rfl, H1.out⟩
set_option maxHeartbeats 1000000 in
theorem rwLook_yes (g : Nat) (p : Wp) (m : Wm) (k : Nat) (w : World) (h : (rw8 g p m).Ok w) (hw : m.Wf) (hk : k < m.fl.length) :
    Calls Try.prog 58 #[.pointer (some ⟨g, 0, none⟩), .int .i64 k] w fun e w' => ∃ a cap, e = .returned (.tuple #[lv m.fl[k].1 m.fl[k].2.1 (.slice a m.fl[k].2.2.length cap), .int .i64 0]) ∧ m.fl[k].2.2.length ≤ cap ∧ Row w a m.fl[k].2.2 ∧ (a = none → cap = 0) ∧ (∀ y, a = some y → y.block ∈ p.V) ∧ Below w.heap.size w w' := by
  have b0 : Below w.heap.size w (w.alloc (.cells #[.int .i64 0, .int .i64 0, .slice none 0 0] 51)) := (Below.refl _ _).alloc (Nat.le_refl _) _
  have M0 := Blk.new' w 51 [.int .i64 0, .int .i64 0, .slice none 0 0]
  obtain ⟨hnd, fv, vs, hq, hD⟩ := h.holds
  obtain ⟨-, -, c2, -⟩ := rw_cells hD
  obtain ⟨qb, qc, a, cap, rfl, hqc, e0, e1, e2, r1, r2, r3, r4⟩ := rw_letter hD k hk
  have c2' := cell_later b0 c2
  have e0' := cell_later b0 e0
  have e1' := cell_later b0 e1
  have e2' := cell_later b0 e2
  have hfu := hw.full
  have q1 : (k : Int) < (m.fl.length : Int) := by omega
  have K : Hid _ := And.intro r1 (And.intro r2 (And.intro r3 r4))
  obtain ⟨⟨j0, j1, j2⟩, f0, f1, f2⟩ := wblk3 M0
  unfold lv
  generalize m.fl[k].1 = x at *
  generalize m.fl[k].2.1 = y at *
  generalize m.fl[k].2.2 = l at *
  clear b0 M0 h hw hnd hD hq c2 e0 e1 e2 r1 r2 r3 r4 hk
  generalize l.length = len at *
  go_enter Try.func58, Try.ntmps58
  go_wp2
  refine bodyPost_ret (v := .tuple #[.agg #[.int .i64 x, .int .i64 y, .slice a len cap], .int .i64 0]) (by simp [results, Try.results58, go_sem]) rfl ?_
  exact ⟨a, cap, rfl, K.out.1, K.out.2.1, K.out.2.2.1, K.out.2.2.2, (Below.refl _ _).alloc (Nat.le_refl _) _⟩

set_option maxHeartbeats 400000 in
theorem rwApart_any (g : Nat) (p : Wp) (m : Wm) (a b : Int) (w : World) (h : (rw8 g p m).Ok w) (hw : m.Wf) (ha : I64 a) (hb : I64 b) :
    Calls Try.prog 59 #[.pointer (some ⟨g, 0, none⟩), .int .i64 a, .int .i64 b] w fun e w' => e = .returned (.bool (m.apart a b)) ∧ Below w.heap.size w w' := by
  have HH : Hid _ := fun (i : Int) (hi : I64 i) (n : Nat) => (rwin_any g p m i (w.drewN n) (h.later (below_drewN _ _ _)) hw hi).mono (fun e w' hh => (⟨hh.1, hh.2.symm⟩ : e = .returned (.bool (hasW m.ck.length i)) ∧ w' = w.drewN n))
  obtain ⟨hnd, fv, vs, hq, hD⟩ := h.holds
  obtain ⟨-, -, -, c3, -⟩ := rw_cells hD
  have h5 := hw.five
  have hc : m.cut < 32 := Nat.lt_of_lt_of_le hw.mask (Nat.pow_le_pow_right (by omega) h5 : 2 ^ m.ck.length ≤ 2 ^ 5)
  unfold Wm.apart
  by_cases ca : hasW m.ck.length a = true
  · by_cases cb : hasW m.ck.length b = true
    · obtain ⟨x, rfl, hx⟩ := at_ck ca
      obtain ⟨y, rfl, hy⟩ := at_ck cb
      obtain ⟨R, hR⟩ : ∃ R, R = (hasW m.ck.length x && (hasW m.ck.length y && decide (sideN m.cut (x : Int).toNat ≠ sideN m.cut (y : Int).toNat))) := ⟨_, rfl⟩
      rw [← hR]
      rw [ca, cb, Bool.true_and, Bool.true_and, Int.toNat_natCast, Int.toNat_natCast] at hR
      have HR : Hid _ := hR
      have f : ∀ z : Nat, bits .and .i64 ((m.cut : Int) / 2 ^ z) 1 = ((sideN m.cut z : Nat) : Int) := fun z => by
        have e : ((m.cut : Int) / 2 ^ z) = ((m.cut / 2 ^ z : Nat) : Int) := by rw [Int.natCast_ediv, Int.natCast_pow]; rfl
        rw [e]
        exact and_bit _ (Nat.lt_of_le_of_lt (Nat.div_le_self _ _) hc)
      have HF : Hid _ := f
      have q1 : (x : Int) < 5 := by omega
      have q2 : (y : Int) < 5 := by omega
      clear h hw hD hq hnd hR f
      go_enter Try.func59, Try.ntmps59
      go_wp2_with fail
      go_quiet ((go_at_call 93; exact Calls.quiet_of_same (HH.out _ (by assumption) _)))
      go_wp2
      go_ret
      refine ⟨ret_bool ?_, below_drewN _ _ _⟩
      have u : ∀ z : Nat, (z : Int) < 5 → min (IntKind.u64.wrap (z : Int)).toNat 64 = z := fun z hz => by
        have : IntKind.u64.wrap (z : Int) = z := by simp [IntKind.wrap, IntKind.signed, IntKind.bits]; omega
        rw [this]; omega
      rw [u x q1, u y q2, HF.out, HF.out, HR.out]
      by_cases e : sideN m.cut x = sideN m.cut y
      · simp [e]
      · simp [e]; omega
    · have hf : hasW m.ck.length b = false := by simpa using cb
      rw [ca, hf, Bool.false_and, Bool.and_false]
      have HA : Hid _ := fun (W : World) (hW : Below w.heap.size w W) => rwin_any g p m a W (h.later hW) hw ha
      have HB : Hid _ := fun (W : World) (hW : Below w.heap.size w W) => rwin_any g p m b W (h.later hW) hw hb
      simp only [ca] at HA
      simp only [hf] at HB
      have Sd : Below w.heap.size w w.drew := (Below.refl _ _).drew
      clear h hw cb hD hq hnd hc h5 HH ca hf c3
      go_enter Try.func59, Try.ntmps59
      go_wp2_with fail
      refine wp_region_held_drew (S := fun W => Below w.heap.size w W) (by kernel_rfl) Sd (fun hS => ?_)
      have B0 : Below w.heap.size w w.drew := Sd
      refine any_take (i := 0) (v := ?_) rfl (by kernel_rfl) (by kernel_rfl) (by kernel_rfl) (by exact fun _ _ _ h => h) (by rfl) ?_ hS ?_
      rotate_left
      · ((intro w hSw; (try dsimp only at hSw); go_simp) <;> with_reducible rfl)
      (try simp only [Act.put, List.setIfInBounds_toArray, List.set_cons_zero, List.set_cons_succ])
      refine any_take (i := 1) (v := ?_) rfl (by kernel_rfl) (by kernel_rfl) (by kernel_rfl) (by exact fun _ _ _ h => h) (by rfl) ?_ hS ?_
      rotate_left
      · ((intro w hSw; (try dsimp only at hSw); go_simp) <;> with_reducible rfl)
      (try simp only [Act.put, List.setIfInBounds_toArray, List.set_cons_zero, List.set_cons_succ])
      refine any_one (i := 2) rfl (by kernel_rfl) (fun K hK => ?_)
      go_simp
      refine (Calls.mono (HA.out _ hS)) ?_
      rintro e _ ⟨rfl, rfl⟩
      go_wp2_with fail
      refine hK.out _ _ hS ?_
      clear hK K
      refine any_take (i := 3) (v := ?_) rfl (by kernel_rfl) (by kernel_rfl) (by kernel_rfl) (by exact fun _ _ _ h => h) (by rfl) ?_ hS ?_
      rotate_left
      · ((intro w hSw; (try dsimp only at hSw); go_simp) <;> with_reducible rfl)
      (try simp only [Act.put, List.setIfInBounds_toArray, List.set_cons_zero, List.set_cons_succ])
      refine any_take (i := 4) (v := ?_) rfl (by kernel_rfl) (by kernel_rfl) (by kernel_rfl) (by exact fun _ _ _ h => h) (by rfl) ?_ hS ?_
      rotate_left
      · ((intro w hSw; (try dsimp only at hSw); go_simp) <;> with_reducible rfl)
      (try simp only [Act.put, List.setIfInBounds_toArray, List.set_cons_zero, List.set_cons_succ])
      refine any_take (i := 5) (v := ?_) rfl (by kernel_rfl) (by kernel_rfl) (by kernel_rfl) (by exact fun _ _ _ h => h) (by rfl) ?_ hS ?_
      rotate_left
      · ((intro w hSw; (try dsimp only at hSw); go_simp) <;> with_reducible rfl)
      (try simp only [Act.put, List.setIfInBounds_toArray, List.set_cons_zero, List.set_cons_succ])
      refine any_one (i := 6) rfl (by kernel_rfl) (fun K hK => ?_)
      go_simp
      refine (Calls.mono (HB.out _ hS)) ?_
      rintro e _ ⟨rfl, rfl⟩
      go_wp2_with fail
      refine hK.out _ _ hS ?_
      clear hK K
      refine any_take (i := 7) (v := ?_) rfl (by kernel_rfl) (by kernel_rfl) (by kernel_rfl) (by exact fun _ _ _ h => h) (by rfl) ?_ hS ?_
      rotate_left
      · ((intro w hSw; (try dsimp only at hSw); go_simp) <;> with_reducible rfl)
      (try simp only [Act.put, List.setIfInBounds_toArray, List.set_cons_zero, List.set_cons_succ])
      refine any_take (i := 8) (v := ?_) rfl (by kernel_rfl) (by kernel_rfl) (by kernel_rfl) (by exact fun _ _ _ h => h) (by rfl) ?_ hS ?_
      rotate_left
      · ((intro w hSw; (try dsimp only at hSw); go_simp) <;> with_reducible rfl)
      (try simp only [Act.put, List.setIfInBounds_toArray, List.set_cons_zero, List.set_cons_succ])
      refine any_skip (i := 9) rfl (by kernel_rfl) (by kernel_rfl) (by kernel_rfl) (by exact fun _ _ _ h => h) (by rfl) hS ?_
      (try simp only [Act.put, List.setIfInBounds_toArray, List.set_cons_zero, List.set_cons_succ])
      refine any_skip (i := 10) rfl (by kernel_rfl) (by kernel_rfl) (by kernel_rfl) (by exact fun _ _ _ h => h) (by rfl) hS ?_
      (try simp only [Act.put, List.setIfInBounds_toArray, List.set_cons_zero, List.set_cons_succ])
      refine any_skip (i := 11) rfl (by kernel_rfl) (by kernel_rfl) (by kernel_rfl) (by exact fun _ _ _ h => h) (by rfl) hS ?_
      (try simp only [Act.put, List.setIfInBounds_toArray, List.set_cons_zero, List.set_cons_succ])
      refine any_skip (i := 12) rfl (by kernel_rfl) (by kernel_rfl) (by kernel_rfl) (by exact fun _ _ _ h => h) (by rfl) hS ?_
      (try simp only [Act.put, List.setIfInBounds_toArray, List.set_cons_zero, List.set_cons_succ])
      refine any_skip (i := 13) rfl (by kernel_rfl) (by kernel_rfl) (by kernel_rfl) (by exact fun _ _ _ h => h) (by rfl) hS ?_
      (try simp only [Act.put, List.setIfInBounds_toArray, List.set_cons_zero, List.set_cons_succ])
      refine any_skip (i := 14) rfl (by kernel_rfl) (by kernel_rfl) (by kernel_rfl) (by exact fun _ _ _ h => h) (by rfl) hS ?_
      (try simp only [Act.put, List.setIfInBounds_toArray, List.set_cons_zero, List.set_cons_succ])
      refine any_skip (i := 15) rfl (by kernel_rfl) (by kernel_rfl) (by kernel_rfl) (by exact fun _ _ _ h => h) (by rfl) hS ?_
      (try simp only [Act.put, List.setIfInBounds_toArray, List.set_cons_zero, List.set_cons_succ])
      refine any_skip (i := 16) rfl (by kernel_rfl) (by kernel_rfl) (by kernel_rfl) (by exact fun _ _ _ h => h) (by rfl) hS ?_
      (try simp only [Act.put, List.setIfInBounds_toArray, List.set_cons_zero, List.set_cons_succ])
      refine any_skip (i := 17) rfl (by kernel_rfl) (by kernel_rfl) (by kernel_rfl) (by exact fun _ _ _ h => h) (by rfl) hS ?_
      (try simp only [Act.put, List.setIfInBounds_toArray, List.set_cons_zero, List.set_cons_succ])
      refine any_skip (i := 18) rfl (by kernel_rfl) (by kernel_rfl) (by kernel_rfl) (by exact fun _ _ _ h => h) (by rfl) hS ?_
      (try simp only [Act.put, List.setIfInBounds_toArray, List.set_cons_zero, List.set_cons_succ])
      refine any_skip (i := 19) rfl (by kernel_rfl) (by kernel_rfl) (by kernel_rfl) (by exact fun _ _ _ h => h) (by rfl) hS ?_
      (try simp only [Act.put, List.setIfInBounds_toArray, List.set_cons_zero, List.set_cons_succ])
      refine any_skip (i := 20) rfl (by kernel_rfl) (by kernel_rfl) (by kernel_rfl) (by exact fun _ _ _ h => h) (by rfl) hS ?_
      (try simp only [Act.put, List.setIfInBounds_toArray, List.set_cons_zero, List.set_cons_succ])
      refine any_skip (i := 21) rfl (by kernel_rfl) (by kernel_rfl) (by kernel_rfl) (by exact fun _ _ _ h => h) (by rfl) hS ?_
      (try simp only [Act.put, List.setIfInBounds_toArray, List.set_cons_zero, List.set_cons_succ])
      refine any_skip (i := 22) rfl (by kernel_rfl) (by kernel_rfl) (by kernel_rfl) (by exact fun _ _ _ h => h) (by rfl) hS ?_
      (try simp only [Act.put, List.setIfInBounds_toArray, List.set_cons_zero, List.set_cons_succ])
      refine any_skip (i := 23) rfl (by kernel_rfl) (by kernel_rfl) (by kernel_rfl) (by exact fun _ _ _ h => h) (by rfl) hS ?_
      (try simp only [Act.put, List.setIfInBounds_toArray, List.set_cons_zero, List.set_cons_succ])
      refine any_skip (i := 24) rfl (by kernel_rfl) (by kernel_rfl) (by kernel_rfl) (by exact fun _ _ _ h => h) (by rfl) hS ?_
      (try simp only [Act.put, List.setIfInBounds_toArray, List.set_cons_zero, List.set_cons_succ])
      refine any_skip (i := 25) rfl (by kernel_rfl) (by kernel_rfl) (by kernel_rfl) (by exact fun _ _ _ h => h) (by rfl) hS ?_
      (try simp only [Act.put, List.setIfInBounds_toArray, List.set_cons_zero, List.set_cons_succ])
      refine any_take (i := 26) (v := ?_) rfl (by kernel_rfl) (by kernel_rfl) (by kernel_rfl) (by exact fun _ _ _ h => h) (by rfl) ?_ hS ?_
      rotate_left
      · ((intro w hSw; (try dsimp only at hSw); go_simp) <;> with_reducible rfl)
      (try simp only [Act.put, List.setIfInBounds_toArray, List.set_cons_zero, List.set_cons_succ])
      refine any_take (i := 27) (v := ?_) rfl (by kernel_rfl) (by kernel_rfl) (by kernel_rfl) (by exact fun _ _ _ h => h) (by rfl) ?_ hS ?_
      rotate_left
      · ((intro w hSw; (try dsimp only at hSw); go_simp) <;> with_reducible rfl)
      (try simp only [Act.put, List.setIfInBounds_toArray, List.set_cons_zero, List.set_cons_succ])
      refine wpAnyH_done (by kernel_rfl) ?_ _
      go_wp2_with fail
      go_ret
      exact ⟨rfl, hS⟩
  · have hf : hasW m.ck.length a = false := by simpa using ca
    rw [hf, Bool.false_and]
    have HA : Hid _ := fun (W : World) (hW : Below w.heap.size w W) => rwin_any g p m a W (h.later hW) hw ha
    simp only [hf] at HA
    have Sd : Below w.heap.size w w.drew := (Below.refl _ _).drew
    clear h hw ca hD hq hnd hc h5 HH hf c3
    go_enter Try.func59, Try.ntmps59
    go_wp2_with fail
    refine wp_region_held_drew (S := fun W => Below w.heap.size w W) (by kernel_rfl) Sd (fun hS => ?_)
    have B0 : Below w.heap.size w w.drew := Sd
    refine any_take (i := 0) (v := ?_) rfl (by kernel_rfl) (by kernel_rfl) (by kernel_rfl) (by exact fun _ _ _ h => h) (by rfl) ?_ hS ?_
    rotate_left
    · ((intro w hSw; (try dsimp only at hSw); go_simp) <;> with_reducible rfl)
    (try simp only [Act.put, List.setIfInBounds_toArray, List.set_cons_zero, List.set_cons_succ])
    refine any_take (i := 1) (v := ?_) rfl (by kernel_rfl) (by kernel_rfl) (by kernel_rfl) (by exact fun _ _ _ h => h) (by rfl) ?_ hS ?_
    rotate_left
    · ((intro w hSw; (try dsimp only at hSw); go_simp) <;> with_reducible rfl)
    (try simp only [Act.put, List.setIfInBounds_toArray, List.set_cons_zero, List.set_cons_succ])
    refine any_one (i := 2) rfl (by kernel_rfl) (fun K hK => ?_)
    go_simp
    refine (Calls.mono (HA.out _ hS)) ?_
    rintro e _ ⟨rfl, rfl⟩
    go_wp2_with fail
    refine hK.out _ _ hS ?_
    clear hK K
    refine any_take (i := 3) (v := ?_) rfl (by kernel_rfl) (by kernel_rfl) (by kernel_rfl) (by exact fun _ _ _ h => h) (by rfl) ?_ hS ?_
    rotate_left
    · ((intro w hSw; (try dsimp only at hSw); go_simp) <;> with_reducible rfl)
    (try simp only [Act.put, List.setIfInBounds_toArray, List.set_cons_zero, List.set_cons_succ])
    refine any_skip (i := 4) rfl (by kernel_rfl) (by kernel_rfl) (by kernel_rfl) (by exact fun _ _ _ h => h) (by rfl) hS ?_
    (try simp only [Act.put, List.setIfInBounds_toArray, List.set_cons_zero, List.set_cons_succ])
    refine any_skip (i := 5) rfl (by kernel_rfl) (by kernel_rfl) (by kernel_rfl) (by exact fun _ _ _ h => h) (by rfl) hS ?_
    (try simp only [Act.put, List.setIfInBounds_toArray, List.set_cons_zero, List.set_cons_succ])
    refine any_skip (i := 6) rfl (by kernel_rfl) (by kernel_rfl) (by kernel_rfl) (by exact fun _ _ _ h => h) (by rfl) hS ?_
    (try simp only [Act.put, List.setIfInBounds_toArray, List.set_cons_zero, List.set_cons_succ])
    refine any_take (i := 7) (v := ?_) rfl (by kernel_rfl) (by kernel_rfl) (by kernel_rfl) (by exact fun _ _ _ h => h) (by rfl) ?_ hS ?_
    rotate_left
    · ((intro w hSw; (try dsimp only at hSw); go_simp) <;> with_reducible rfl)
    (try simp only [Act.put, List.setIfInBounds_toArray, List.set_cons_zero, List.set_cons_succ])
    refine any_take (i := 8) (v := ?_) rfl (by kernel_rfl) (by kernel_rfl) (by kernel_rfl) (by exact fun _ _ _ h => h) (by rfl) ?_ hS ?_
    rotate_left
    · ((intro w hSw; (try dsimp only at hSw); go_simp) <;> with_reducible rfl)
    (try simp only [Act.put, List.setIfInBounds_toArray, List.set_cons_zero, List.set_cons_succ])
    refine any_skip (i := 9) rfl (by kernel_rfl) (by kernel_rfl) (by kernel_rfl) (by exact fun _ _ _ h => h) (by rfl) hS ?_
    (try simp only [Act.put, List.setIfInBounds_toArray, List.set_cons_zero, List.set_cons_succ])
    refine any_skip (i := 10) rfl (by kernel_rfl) (by kernel_rfl) (by kernel_rfl) (by exact fun _ _ _ h => h) (by rfl) hS ?_
    (try simp only [Act.put, List.setIfInBounds_toArray, List.set_cons_zero, List.set_cons_succ])
    refine any_skip (i := 11) rfl (by kernel_rfl) (by kernel_rfl) (by kernel_rfl) (by exact fun _ _ _ h => h) (by rfl) hS ?_
    (try simp only [Act.put, List.setIfInBounds_toArray, List.set_cons_zero, List.set_cons_succ])
    refine any_skip (i := 12) rfl (by kernel_rfl) (by kernel_rfl) (by kernel_rfl) (by exact fun _ _ _ h => h) (by rfl) hS ?_
    (try simp only [Act.put, List.setIfInBounds_toArray, List.set_cons_zero, List.set_cons_succ])
    refine any_skip (i := 13) rfl (by kernel_rfl) (by kernel_rfl) (by kernel_rfl) (by exact fun _ _ _ h => h) (by rfl) hS ?_
    (try simp only [Act.put, List.setIfInBounds_toArray, List.set_cons_zero, List.set_cons_succ])
    refine any_skip (i := 14) rfl (by kernel_rfl) (by kernel_rfl) (by kernel_rfl) (by exact fun _ _ _ h => h) (by rfl) hS ?_
    (try simp only [Act.put, List.setIfInBounds_toArray, List.set_cons_zero, List.set_cons_succ])
    refine any_skip (i := 15) rfl (by kernel_rfl) (by kernel_rfl) (by kernel_rfl) (by exact fun _ _ _ h => h) (by rfl) hS ?_
    (try simp only [Act.put, List.setIfInBounds_toArray, List.set_cons_zero, List.set_cons_succ])
    refine any_skip (i := 16) rfl (by kernel_rfl) (by kernel_rfl) (by kernel_rfl) (by exact fun _ _ _ h => h) (by rfl) hS ?_
    (try simp only [Act.put, List.setIfInBounds_toArray, List.set_cons_zero, List.set_cons_succ])
    refine any_skip (i := 17) rfl (by kernel_rfl) (by kernel_rfl) (by kernel_rfl) (by exact fun _ _ _ h => h) (by rfl) hS ?_
    (try simp only [Act.put, List.setIfInBounds_toArray, List.set_cons_zero, List.set_cons_succ])
    refine any_skip (i := 18) rfl (by kernel_rfl) (by kernel_rfl) (by kernel_rfl) (by exact fun _ _ _ h => h) (by rfl) hS ?_
    (try simp only [Act.put, List.setIfInBounds_toArray, List.set_cons_zero, List.set_cons_succ])
    refine any_skip (i := 19) rfl (by kernel_rfl) (by kernel_rfl) (by kernel_rfl) (by exact fun _ _ _ h => h) (by rfl) hS ?_
    (try simp only [Act.put, List.setIfInBounds_toArray, List.set_cons_zero, List.set_cons_succ])
    refine any_skip (i := 20) rfl (by kernel_rfl) (by kernel_rfl) (by kernel_rfl) (by exact fun _ _ _ h => h) (by rfl) hS ?_
    (try simp only [Act.put, List.setIfInBounds_toArray, List.set_cons_zero, List.set_cons_succ])
    refine any_skip (i := 21) rfl (by kernel_rfl) (by kernel_rfl) (by kernel_rfl) (by exact fun _ _ _ h => h) (by rfl) hS ?_
    (try simp only [Act.put, List.setIfInBounds_toArray, List.set_cons_zero, List.set_cons_succ])
    refine any_skip (i := 22) rfl (by kernel_rfl) (by kernel_rfl) (by kernel_rfl) (by exact fun _ _ _ h => h) (by rfl) hS ?_
    (try simp only [Act.put, List.setIfInBounds_toArray, List.set_cons_zero, List.set_cons_succ])
    refine any_skip (i := 23) rfl (by kernel_rfl) (by kernel_rfl) (by kernel_rfl) (by exact fun _ _ _ h => h) (by rfl) hS ?_
    (try simp only [Act.put, List.setIfInBounds_toArray, List.set_cons_zero, List.set_cons_succ])
    refine any_skip (i := 24) rfl (by kernel_rfl) (by kernel_rfl) (by kernel_rfl) (by exact fun _ _ _ h => h) (by rfl) hS ?_
    (try simp only [Act.put, List.setIfInBounds_toArray, List.set_cons_zero, List.set_cons_succ])
    refine any_skip (i := 25) rfl (by kernel_rfl) (by kernel_rfl) (by kernel_rfl) (by exact fun _ _ _ h => h) (by rfl) hS ?_
    (try simp only [Act.put, List.setIfInBounds_toArray, List.set_cons_zero, List.set_cons_succ])
    refine any_take (i := 26) (v := ?_) rfl (by kernel_rfl) (by kernel_rfl) (by kernel_rfl) (by exact fun _ _ _ h => h) (by rfl) ?_ hS ?_
    rotate_left
    · ((intro w hSw; (try dsimp only at hSw); go_simp) <;> with_reducible rfl)
    (try simp only [Act.put, List.setIfInBounds_toArray, List.set_cons_zero, List.set_cons_succ])
    refine any_take (i := 27) (v := ?_) rfl (by kernel_rfl) (by kernel_rfl) (by kernel_rfl) (by exact fun _ _ _ h => h) (by rfl) ?_ hS ?_
    rotate_left
    · ((intro w hSw; (try dsimp only at hSw); go_simp) <;> with_reducible rfl)
    (try simp only [Act.put, List.setIfInBounds_toArray, List.set_cons_zero, List.set_cons_succ])
    refine wpAnyH_done (by kernel_rfl) ?_ _
    go_wp2_with fail
    go_ret
    exact ⟨rfl, hS⟩
end Go.Proofs.Ytjfodmdijajfbaa
