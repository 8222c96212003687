/- Who holds a reservation (no Go). -/
import Derived.Test.YtjokohjdpickoaaXRv22
namespace Go.Proofs.Ytjokohjdpickoaa
open Go.RowKit Go.Shelf
set_option linter.unusedVariables false
set_option linter.unusedSimpArgs false

structure HI (m : Rs) : Prop where
  fen : ∀ n, n < 16 → kAt m n ≠ 0 → fAt m n = false
  res : m.k = 0 ∨ (tyB m.k = true ∧ ((m.k < 7 ∧ kAt m m.h.toNat ≠ 0) ∨ (m.k ≥ 7 ∧ ∃ n, n < 16 ∧ kAt m n ≠ 0)))
theorem rg_k {m : Rs} {i : Nat} : rg m i = true ↔ kAt m i ≠ 0 := by unfold rg; rw [bne_iff_ne]
theorem eaB_iff {k : Int} (h : tyB k = true) : (eaB k = true ↔ k ≥ 7) := by
  unfold tyB at h
  unfold eaB
  simp only [Bool.or_eq_true, beq_iff_eq] at h ⊢
  omega
theorem chg_fen {m m' : Rs} (h : ∀ n, n < 16 → kAt m n ≠ 0 → fAt m n = false) (hc : Chg m m') : ∀ n, n < 16 → kAt m' n ≠ 0 → fAt m' n = false := fun n hn hk => by
  rcases hc n with ⟨a, b⟩ | ⟨a, b, c⟩ | ⟨a, b⟩
  · rw [b]; rw [a] at hk; exact h n hn hk
  · exact absurd b hk
  · exact b
theorem tkF_keep (nx key : Int) (n : Nat) : ∀ (rs : List (Nat × Int)) (s : Rs × List Int), s.1.Wf → (∀ r ∈ rs, tkB nx key r = true → r.1 ≠ n ∧ r.1 < 16) → kAt (tkF nx key s rs).1 n = kAt s.1 n
  | [], s, _, _ => rfl
  | r :: rs, s, hs, h => by
    show kAt (tkF nx key (if tkB nx key r = true then (away s.1 r.1, s.2.set r.1 5) else s) rs).1 n = _
    split
    · next hr =>
      obtain ⟨h1, h2⟩ := h r (by simp) hr
      rw [tkF_keep nx key n rs _ (away_wf hs _) (fun r' hr' => h r' (List.mem_cons_of_mem _ hr'))]
      have := set_k s.1 r.1 0 true n (by rw [hs.kl]; exact h2)
      rw [if_neg h1] at this
      exact this
    · exact tkF_keep nx key n rs s hs (fun r' hr' => h r' (List.mem_cons_of_mem _ hr'))
theorem anyB_ex {m : Rs} (h : anyB m = true) : ∃ n, n < 16 ∧ kAt m n ≠ 0 := by
  unfold anyB at h
  rw [Bool.not_eq_true', List.all_eq_false] at h
  obtain ⟨n, hn, hx⟩ := h
  have hn' := List.mem_range.1 hn
  refine ⟨n, hn', fun e => hx ?_⟩
  have : ∀ j : Fin 16, z16.getD j.val 0 = 0 := by decide
  rw [show m.ks.getD n 0 = 0 from e, this ⟨n, hn'⟩]; rfl
theorem res_end (m : Rs) : (hold m 0 0).k = 0 := rfl
theorem leave_res {m : Rs} (hm : m.Wf) (h : HI m) (i : Nat) (hi : i < 16) : (leaveM m i).1.k = 0 ∨ (tyB (leaveM m i).1.k = true ∧ (((leaveM m i).1.k < 7 ∧ kAt (leaveM m i).1 (leaveM m i).1.h.toNat ≠ 0) ∨ ((leaveM m i).1.k ≥ 7 ∧ ∃ n, n < 16 ∧ kAt (leaveM m i).1 n ≠ 0))) := by
  unfold leaveM
  split
  · next hr =>
    split
    · exact .inl rfl
    · next hc =>
      have hc' : (hoB m i && !eaB m.k || !anyB (bump (away m i))) = false := by cases hx : (hoB m i && !eaB m.k || !anyB (bump (away m i))); rfl; exact absurd hx hc
      rw [Bool.or_eq_false_iff] at hc'
      obtain ⟨c1, c2⟩ := hc'
      rcases h.res with h0 | ⟨ht, h1 | h1⟩
      · exact .inl h0
      · refine .inr ⟨ht, .inl ⟨h1.1, ?_⟩⟩
        have he : eaB m.k = false := by cases hx : eaB m.k; rfl; have := (eaB_iff ht).1 hx; omega
        rw [he] at c1
        have hk0 : ¬ m.k = 0 := fun e => by rw [e] at ht; cases ht
        have hho : (m.h == (i : Int)) = false := by
          have : hoB m i = false := by simpa using c1
          unfold hoB at this
          rw [if_neg hk0, if_neg (by rw [he]; decide)] at this
          exact this
        have hne : i ≠ m.h.toNat := fun e => by
          rw [beq_eq_false_iff_ne] at hho
          have := hm.hh
          omega
        have := set_k m i 0 true m.h.toNat (by rw [hm.kl]; exact hi)
        rw [if_neg hne] at this
        show kAt (away m i) m.h.toNat ≠ 0
        rw [show kAt (away m i) m.h.toNat = _ from this]
        exact h1.2
      · have c2' : anyB (bump (away m i)) = true := by simpa using c2
        exact .inr ⟨ht, .inr ⟨h1.1, anyB_ex c2'⟩⟩
  · exact h.res
theorem ign_res {m : Rs} (hm : m.Wf) (h : HI m) (i : Nat) (hi : i < 16) (nw : Int) : (ignM m i nw).1.k = 0 ∨ (tyB (ignM m i nw).1.k = true ∧ (((ignM m i nw).1.k < 7 ∧ kAt (ignM m i nw).1 (ignM m i nw).1.h.toNat ≠ 0) ∨ ((ignM m i nw).1.k ≥ 7 ∧ ∃ n, n < 16 ∧ kAt (ignM m i nw).1 n ≠ 0))) := by
  unfold ignM
  split
  · exact leave_res hm h i hi
  · next hx =>
    have hk : ∀ n, kAt m n ≠ 0 → kAt (bump (give m i nw)) n ≠ 0 := fun n hn => by
      have := set_k m i nw false n (by rw [hm.kl]; exact hi)
      show kAt (give m i nw) n ≠ 0
      rw [show kAt (give m i nw) n = _ from this]
      split
      · exact hx
      · exact hn
    rcases h.res with h0 | ⟨ht, h1 | ⟨h1, n, h2, h3⟩⟩
    · exact .inl h0
    · exact .inr ⟨ht, .inl ⟨h1.1, hk _ h1.2⟩⟩
    · exact .inr ⟨ht, .inr ⟨h1, n, h2, hk n h3⟩⟩
theorem hold_res {m : Rs} (i : Nat) (t : Int) (hi : i < 16) (ht : tyB t = true) (hk : kAt m i ≠ 0) : (hold m i t).k = 0 ∨ (tyB (hold m i t).k = true ∧ (((hold m i t).k < 7 ∧ kAt (hold m i t) (hold m i t).h.toNat ≠ 0) ∨ ((hold m i t).k ≥ 7 ∧ ∃ n, n < 16 ∧ kAt (hold m i t) n ≠ 0))) := by
  refine .inr ⟨ht, ?_⟩
  by_cases h7 : t < 7
  · exact .inl ⟨h7, by show kAt m ((i : Int)).toNat ≠ 0; rw [Int.toNat_natCast]; exact hk⟩
  · exact .inr ⟨by show t ≥ 7; omega, i, hi, hk⟩
theorem tk_own (m : Rs) (hm : m.Wf) (i : Nat) (key : Int) : kAt (tkF (i : Int) key (m, z16) (regsL m.ks 16)).1 i = kAt m i :=
  tkF_keep _ _ i _ (m, z16) hm (fun r hr h => by
    have h' : (r.1 : Int) ≠ (i : Int) ∧ (key = 0 ∨ r.2 = key) := of_decide_eq_true h
    exact ⟨by omega, (regsL_k hr).1⟩)
theorem pre_res {m : Rs} (hm : m.Wf) (h : HI m) (i : Nat) (hi : i < 16) (c : Cm) (hr : kAt m i ≠ 0) : (preM m i c).2.1.k = 0 ∨ (tyB (preM m i c).2.1.k = true ∧ (((preM m i c).2.1.k < 7 ∧ kAt (preM m i c).2.1 (preM m i c).2.1.h.toNat ≠ 0) ∨ ((preM m i c).2.1.k ≥ 7 ∧ ∃ n, n < 16 ∧ kAt (preM m i c).2.1 n ≠ 0))) := by
  unfold preM
  split
  · exact h.res
  · next hty =>
    have hty' : tyB c.t = true := by cases hx : tyB c.t; exact absurd hx hty; rfl
    split
    · exact hold_res (m := (tkF (i : Int) c.nw (m, z16) (regsL m.ks 16)).1) i c.t hi hty' (by rw [tk_own m hm i]; exact hr)
    · next hhw =>
      split
      · exact h.res
      · next hnw =>
        split
        · exact h.res
        · have hP := (tkF_tk (i : Int) c.nw m z16 hm (regsL m.ks 16) (regs_ok m))
          have hkk : (tkF (i : Int) c.nw (m, z16) (regsL m.ks 16)).1.k = m.k ∧ (tkF (i : Int) c.nw (m, z16) (regsL m.ks 16)).1.h = m.h := by
            have : ∀ (rs : List (Nat × Int)) (s : Rs × List Int), (tkF (i : Int) c.nw s rs).1.k = s.1.k ∧ (tkF (i : Int) c.nw s rs).1.h = s.1.h := by
              intro rs
              induction rs with
              | nil => exact fun s => ⟨rfl, rfl⟩
              | cons r rs ih =>
                intro s
                show (tkF (i : Int) c.nw (if tkB (i : Int) c.nw r = true then (away s.1 r.1, s.2.set r.1 5) else s) rs).1.k = _ ∧ _
                have := ih (if tkB (i : Int) c.nw r = true then (away s.1 r.1, s.2.set r.1 5) else s)
                refine ⟨this.1.trans ?_, this.2.trans ?_⟩ <;> split <;> rfl
            exact this _ (m, z16)
          show (bump (tkF (i : Int) c.nw (m, z16) (regsL m.ks 16)).1).k = 0 ∨ _
          rcases h.res with h0 | ⟨ht, h1 | h1⟩
          · exact .inl (hkk.1.trans h0)
          · refine .inr ⟨by show tyB (tkF (i : Int) c.nw (m, z16) (regsL m.ks 16)).1.k = true; rw [hkk.1]; exact ht, .inl ⟨by show (tkF (i : Int) c.nw (m, z16) (regsL m.ks 16)).1.k < 7; rw [hkk.1]; exact h1.1, ?_⟩⟩
            show kAt (tkF (i : Int) c.nw (m, z16) (regsL m.ks 16)).1 (tkF (i : Int) c.nw (m, z16) (regsL m.ks 16)).1.h.toNat ≠ 0
            rw [hkk.2, tkF_keep _ _ m.h.toNat _ (m, z16) hm (fun r hr' hb => ?_)]
            · exact h1.2
            · have h' : (r.1 : Int) ≠ (i : Int) ∧ (c.nw = 0 ∨ r.2 = c.nw) := of_decide_eq_true hb
              refine ⟨fun e => ?_, (regsL_k hr').1⟩
              have he : eaB m.k = false := by cases hx : eaB m.k; rfl; have := (eaB_iff ht).1 hx; omega
              have hk0 : ¬ m.k = 0 := fun e => by rw [e] at ht; cases ht
              apply hhw
              unfold hwB
              rw [if_neg hk0, if_neg (by rw [he]; decide), beq_iff_eq]
              have := (regsL_k hr').2.2
              rw [e] at this
              rw [← this]
              exact (h'.2.resolve_left hnw).symm
          · refine .inr ⟨by show tyB (tkF (i : Int) c.nw (m, z16) (regsL m.ks 16)).1.k = true; rw [hkk.1]; exact ht, .inr ⟨by show (tkF (i : Int) c.nw (m, z16) (regsL m.ks 16)).1.k ≥ 7; rw [hkk.1]; exact h1.1, i, hi, ?_⟩⟩
            show kAt (tkF (i : Int) c.nw (m, z16) (regsL m.ks 16)).1 i ≠ 0
            rw [tk_own m hm i]; exact hr
theorem do_HI (m : Rs) (hm : m.Wf) (h : HI m) (n : Int) (c : Cm) : HI (doM m n c).2.1 := by
  refine ⟨chg_fen h.fen (do_chg m hm n c), ?_⟩
  unfold doM
  split
  · exact h.res
  · next hn =>
    have hn' : nxB n = true := by cases hx : nxB n; exact absurd hx hn; rfl
    have hb : 0 ≤ n ∧ n < 16 := of_decide_eq_true hn'
    have hi : n.toNat < 16 := by omega
    split
    · unfold regM; split
      · exact ign_res hm h _ hi c.nw
      · exact h.res
    · split
      · exact ign_res hm h _ hi c.nw
      · split
        · split
          · exact h.res
          · next hr =>
            have hrk : kAt m n.toNat ≠ 0 := by
              apply rg_k.1
              cases hx : rg m n.toNat
              · exact absurd (.inl hx) hr
              · rfl
            split
            · unfold rsvM; split
              · exact h.res
              · next hty =>
                have hty' : tyB c.t = true := by cases hx : tyB c.t; exact absurd hx hty; rfl
                split
                · exact hold_res n.toNat c.t hi hty' hrk
                · split <;> exact h.res
            · split
              · unfold relM; split
                · exact h.res
                · split
                  · exact h.res
                  · exact .inl rfl
              · split
                · exact .inl rfl
                · exact pre_res hm h _ hi c hrk
        · exact h.res
theorem HI0 : HI rs0 := ⟨fun n hn h => by
  have : ∀ j : Fin 16, kAt rs0 j.val = 0 := by decide
  exact absurd (this ⟨n, hn⟩) h, .inl rfl⟩
/-- who may write may read -/
theorem may_rw (m : Rs) (n : Int) (h : mayM m n 2 = true) : mayM m n 1 = true := by
  unfold mayM at h ⊢
  split at h
  · cases h
  · next h0 =>
    rw [if_neg (fun e => h0 (e.imp id (fun e => by omega))), if_neg (by decide), if_neg (fun e => absurd e.1 (by decide))]
    rw [if_neg (by decide)] at h
    split at h
    · cases h
    · split at h
      · next h2 => rw [if_pos h2]
      · next h2 =>
        rw [if_neg h2]
        rw [if_neg (fun e => absurd e.1 (by decide))] at h
        split
        · rfl
        · exact h
/-- of the types of exclusive access nobody reads but who may write, or is fenced off -/
theorem may_ex (m : Rs) (n : Int) (hk : m.k = 3 ∨ m.k = 6 ∨ m.k = 8) (h1 : mayM m n 1 = true) (h2 : mayM m n 2 = false) : fenM m n = true := by
  have hle : leB m.k = false := by unfold leB; rcases hk with e | e | e <;> rw [e] <;> rfl
  unfold mayM at h1 h2
  split at h1
  · cases h1
  · next h0 =>
    rw [if_neg (fun e => h0 (e.imp id (fun e => by omega))), if_neg (by decide)] at h2
    rw [if_neg (by decide), if_neg (fun e => absurd e.1 (by decide))] at h1
    split at h2
    · next h3 => exact h3.2
    · split at h2
      · cases h2
      · next h4 =>
        rw [if_neg h4, if_neg (by rw [hle]; simp)] at h1
        rw [if_neg (fun e => absurd e.1 (by decide))] at h2
        rw [h1] at h2; cases h2
/-- who holds may do all -/
theorem may_ho (m : Rs) (hm : m.Wf) (h : HI m) (hk0 : m.k ≠ 0) (h7 : m.k < 7) : mayM m m.h 1 = true ∧ mayM m m.h 2 = true ∧ keyM m m.h ≠ 0 := by
  have hnx : nxB m.h = true := decide_eq_true (p := 0 ≤ m.h ∧ m.h < 16) hm.hh
  obtain ⟨ht, hkk⟩ : tyB m.k = true ∧ kAt m m.h.toNat ≠ 0 := by
    rcases h.res with h0 | ⟨ht, h1 | h1⟩
    · exact absurd h0 hk0
    · exact ⟨ht, h1.2⟩
    · omega
  have he : eaB m.k = false := by cases hx : eaB m.k; rfl; have := (eaB_iff ht).1 hx; omega
  have hho : hoB m m.h.toNat = true := by
    unfold hoB
    rw [if_neg hk0, if_neg (by rw [he]; decide), beq_iff_eq]
    have := hm.hh; omega
  have hf : fenM m m.h = false := by
    unfold fenM; rw [if_pos hnx]
    exact h.fen _ (by have := hm.hh; omega) hkk
  refine ⟨?_, ?_, ?_⟩
  · unfold mayM
    rw [if_neg (by rw [hnx]; simp), if_neg (by decide), if_neg (fun e => absurd e.1 (by decide)), if_pos (.inr hho)]
  · unfold mayM
    rw [if_neg (by rw [hnx]; simp), if_neg (by decide), if_neg (by rw [hf]; simp), if_pos (.inr hho)]
  · unfold keyM; rw [if_pos hnx]; exact hkk
end Go.Proofs.Ytjokohjdpickoaa

