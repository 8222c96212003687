/- text, the document's: one. -/
import Derived.Test.YtligmiajlbjecaaDoorXTy10
import Derived.Test.YtligmiajlbjecaaDoorXTy6
namespace Go.Proofs.YtligmiajlbjecaaDoor
open Go.RowKit
set_option linter.unusedVariables false
set_option linter.unusedSimpArgs false
set_option maxRecDepth 8000

/-- what a pair makes of what is agreed on -/
def OneR (p : Pm18) (k v a : ByteArray) (t ok : Bool) (p' : Pm18) : Prop := ∀ out : List Pr, oneM p out (k, v) = if ok = true then some (p', if t = true then out ++ [(k, a)] else out) else none
/-- how one ends -/
def OneP (g : Nat) (p : Pm18) (k v : ByteArray) (w : World) (e : Ending) (w' : World) : Prop := ∃ ok a t p', e = .returned (.tuple #[.string a, .bool t, .bool ok]) ∧ Turned (fun k => k = g) w w' ∧ (ok = true → Blk w' g 48 p'.c) ∧ OneR p k v a t ok p'
theorem OneP.mk {g : Nat} {p p' : Pm18} {k v a : ByteArray} {t ok : Bool} {w w' : World} (h3 : OneR p k v a t ok p') (h1 : Turned (fun k => k = g) w w') (h2 : ok = true → Blk w' g 48 p'.c) : OneP g p k v w (.returned (.tuple #[.string a, .bool t, .bool ok])) w' := ⟨ok, a, t, p', rfl, h1, h2, h3⟩
theorem OneR.yes {p p' : Pm18} {k v a : ByteArray} {t : Bool} {j : Nat} (hj : keyIx k = j) (h21 : j < 21) (ht : takesM (rlI j) v = true) (ha : agM j (rlI j).an p v = (p', a, t)) : OneR p k v a t true p' := by
  intro out
  subst hj
  rw [if_pos rfl]
  exact one_yes p out (by show ¬ keyIx k = 21; omega) ht ha
theorem OneR.no {p p' : Pm18} {k v a : ByteArray} {t : Bool} {j : Nat} (hj : keyIx k = j) (h21 : j < 21) (ht : takesM (rlI j) v = false) : OneR p k v a t false p' := by
  intro out
  subst hj
  exact one_no p out (by show ¬ keyIx k = 21; omega) ht
theorem OneR.of {p p' : Pm18} {k v a : ByteArray} {t : Bool} {j : Nat} (hj : keyIx k = j) (h21 : j < 21) {b : Bool} (ht : takesM (rlI j) v = b) (ha : agM j (rlI j).an p v = (p', a, t)) : OneR p k v a t b p' := by
  cases b
  · exact OneR.no hj h21 ht
  · exact OneR.yes hj h21 ht ha
theorem OneR.unk {p : Pm18} {k v : ByteArray} (hj : keyIx k = 21) : OneR p k v unkS true true p := fun out => one_unk p out hj
theorem nil_beq (v : ByteArray) : (v.toList == (⟨#[]⟩ : ByteArray).toList) = v.toList.isEmpty := by
  have h : (⟨#[]⟩ : ByteArray).toList = [] := by simp [ByteArray.toList_eq]
  rw [h]; cases v.toList <;> rfl
theorem dg3 (L : List ByteArray) : (dgW L = (⟨#[]⟩ : ByteArray) ∧ fstW [noneS, crcS] L = rejS) ∨ (dgW L = noneS ∧ fstW [noneS, crcS] L = noneS) ∨ (dgW L = crcS ∧ fstW [noneS, crcS] L = crcS) := by
  rcases fstW_dg L with h | ⟨-, h, h2 | h2⟩
  · exact .inl h
  · exact .inr (.inl ⟨h2, h.trans h2⟩)
  · exact .inr (.inr ⟨h2, h.trans h2⟩)
theorem fst_skip {L : List ByteArray} {k : Nat} (h : k < L.length) (h2 : (L[k].toList == noneS.toList) = false) : fstW [noneS] (L.drop (k + 1)) = fstW [noneS] (L.drop k) := by
  rw [List.drop_eq_getElem_cons h]
  conv => rhs; unfold fstW
  rw [cont_one, h2]; rfl
theorem fst_hit {L : List ByteArray} {k : Nat} (h : k < L.length) (h2 : (L[k].toList == noneS.toList) = true) : fstW [noneS] (L.drop k) = noneS := by
  rw [List.drop_eq_getElem_cons h]
  unfold fstW
  rw [cont_one, if_pos h2]
  rw [beq_toList] at h2
  exact of_decide_eq_true h2
set_option maxHeartbeats 8000000 in
theorem rOne_0 (g : Nat) (p : Pm18) (k v : ByteArray) (w : World) (hj : keyIx k = 0) (hB : Blk w g 48 p.c) (hs : v.size ≤ 4194304) : Calls Tryd.prog 39 #[.pointer (some ⟨g, 0, none⟩), .string k, .string v] w fun e w' => OneP g p k v w e w' := by
  have hk : KF k 0 := by have h := (kf_any k).1; rw [hj] at h; exact h
  have HK : Hid _ := hk
  have HBd : Hid (∀ W, _) := fun W => rBd_0 k W hk
  obtain ⟨b1, h1⟩ : ∃ b, (v.toList == (⟨#[]⟩ : ByteArray).toList) = b := ⟨_, rfl⟩
  have ht : takesM (rlI 0) v = !b1 := by rw [← h1, nil_beq]; rfl
  obtain ⟨phs, pds, pmo, pmi, pbu, pfi, pa, pim, pdi, pini, ptgt⟩ := p
  unfold Pm18.c at hB
  simp only at hB
  have HO : Hid _ := OneR.of (p := ⟨phs, pds, pmo, pmi, pbu, pfi, pa, pim, pdi, pini, ptgt⟩) hj (by decide) ht rfl
  have H1 : Hid _ := h1
  clear h1 ht hj
  have S4 := hB.set 9 (.string v)
  simp only [List.set_cons_zero, List.set_cons_succ] at S4
  have T4 := turned_set w g 9 (.string v)
  have z0 := ck_at hB 0
  have z1 := ck_at hB 1
  have z2 := ck_at hB 2
  have z3 := ck_at hB 3
  have z4 := ck_at hB 4
  have z5 := ck_at hB 5
  have z6 := ck_at hB 6
  have z7 := ck_at hB 7
  have z8 := ck_at hB 8
  have z9 := ck_at hB 9
  have z10 := ck_at hB 10
  simp only [List.getElem?_cons_zero, List.getElem?_cons_succ] at z0 z1 z2 z3 z4 z5 z6 z7 z8 z9 z10
  have fz := ck_fz hB 9
  have F : Hid _ := And.intro T4 S4
  clear S4 T4 hB hk
  go_enter Tryd.func39, Tryd.ntmps39
  go_wp2_with fail
  refine (Calls.mono (HBd.out _)) ?_
  rintro e _ ⟨rfl, rfl⟩
  clear HBd
  go_upto_region 9 with fail
  have E0 : Hid _ := (HK.out 0 _ rfl)
  go_wp2_with (first | (refine wpList_value rfl (exec_eqS rfl rfl rfl (b := true) E0.out) ?_) | (refine wpList_value rfl (exec_neS rfl rfl rfl (b := b1) H1.out) ?_))
  refine bodyPost_ret (v := .tuple #[.string ⟨#[]⟩, .bool false, .bool (!b1)]) (by first | rfl | simp [results, Tryd.results39, go_sem]) rfl ?_
  exact OneP.mk (HO.out) (F.out.1) (fun _ => F.out.2)
set_option maxHeartbeats 8000000 in
theorem rOne_1 (g : Nat) (p : Pm18) (k v : ByteArray) (w : World) (hj : keyIx k = 1) (hB : Blk w g 48 p.c) (hs : v.size ≤ 4194304) : Calls Tryd.prog 39 #[.pointer (some ⟨g, 0, none⟩), .string k, .string v] w fun e w' => OneP g p k v w e w' := by
  have hk : KF k 1 := by have h := (kf_any k).1; rw [hj] at h; exact h
  have HK : Hid _ := hk
  have HBd : Hid (∀ W, _) := fun W => rBd_1 k W hk
  obtain ⟨b1, h1⟩ : ∃ b, (v.toList == (⟨#[]⟩ : ByteArray).toList) = b := ⟨_, rfl⟩
  have ht : takesM (rlI 1) v = !b1 := by rw [← h1, nil_beq]; rfl
  obtain ⟨phs, pds, pmo, pmi, pbu, pfi, pa, pim, pdi, pini, ptgt⟩ := p
  unfold Pm18.c at hB
  simp only at hB
  have HO : Hid _ := OneR.of (p := ⟨phs, pds, pmo, pmi, pbu, pfi, pa, pim, pdi, pini, ptgt⟩) hj (by decide) ht rfl
  have H1 : Hid _ := h1
  clear h1 ht hj
  have S4 := hB.set 10 (.string v)
  simp only [List.set_cons_zero, List.set_cons_succ] at S4
  have T4 := turned_set w g 10 (.string v)
  have z0 := ck_at hB 0
  have z1 := ck_at hB 1
  have z2 := ck_at hB 2
  have z3 := ck_at hB 3
  have z4 := ck_at hB 4
  have z5 := ck_at hB 5
  have z6 := ck_at hB 6
  have z7 := ck_at hB 7
  have z8 := ck_at hB 8
  have z9 := ck_at hB 9
  have z10 := ck_at hB 10
  simp only [List.getElem?_cons_zero, List.getElem?_cons_succ] at z0 z1 z2 z3 z4 z5 z6 z7 z8 z9 z10
  have fz := ck_fz hB 10
  have F : Hid _ := And.intro T4 S4
  clear S4 T4 hB hk
  go_enter Tryd.func39, Tryd.ntmps39
  go_wp2_with fail
  refine (Calls.mono (HBd.out _)) ?_
  rintro e _ ⟨rfl, rfl⟩
  clear HBd
  go_upto_region 9 with fail
  have E0 : Hid _ := (HK.out 0 _ rfl)
  go_upto_region 12 with (refine wpList_value rfl (exec_eqS rfl rfl rfl (b := false) E0.out) ?_)
  clear E0
  have E1 : Hid _ := (HK.out 1 _ rfl)
  go_wp2_with (first | (refine wpList_value rfl (exec_eqS rfl rfl rfl (b := true) E1.out) ?_) | (refine wpList_value rfl (exec_neS rfl rfl rfl (b := b1) H1.out) ?_))
  refine bodyPost_ret (v := .tuple #[.string ⟨#[]⟩, .bool false, .bool (!b1)]) (by first | rfl | simp [results, Tryd.results39, go_sem]) rfl ?_
  exact OneP.mk (HO.out) (F.out.1) (fun _ => F.out.2)
set_option maxHeartbeats 8000000 in
theorem rOne_2 (g : Nat) (p : Pm18) (k v : ByteArray) (w : World) (hj : keyIx k = 2) (hB : Blk w g 48 p.c) (hs : v.size ≤ 4194304) : Calls Tryd.prog 39 #[.pointer (some ⟨g, 0, none⟩), .string k, .string v] w fun e w' => OneP g p k v w e w' := by
  have hk : KF k 2 := by have h := (kf_any k).1; rw [hj] at h; exact h
  have HK : Hid _ := hk
  have HBd : Hid (∀ W, _) := fun W => rBd_2 k W hk
  obtain ⟨b1, h1⟩ : ∃ b, (v.toList == discS.toList) = b := ⟨_, rfl⟩
  obtain ⟨b2, h2⟩ : ∃ b, (v.toList == normS.toList) = b := ⟨_, rfl⟩
  have ht : takesM (rlI 2) v = (b1 || b2) := by show (v.toList == normS.toList || v.toList == discS.toList) = _; rw [h1, h2, Bool.or_comm]
  obtain ⟨phs, pds, pmo, pmi, pbu, pfi, pa, pim, pdi, pini, ptgt⟩ := p
  unfold Pm18.c at hB
  simp only at hB
  have HO0 : OneR ⟨phs, pds, pmo, pmi, pbu, pfi, pa, pim, pdi, pini, ptgt⟩ k v ⟨#[]⟩ false (b1 || b2) ⟨phs, pds, pmo, pmi, pbu, pfi, pa, pim, b1, pini, ptgt⟩ := OneR.of hj (by decide) ht (by rw [← h1]; rfl)
  have HO : Hid _ := HO0
  have H1 : Hid _ := h1
  have H2 : Hid _ := h2
  have l2 : (v.toList == [78, 111, 114, 109, 97, 108]) = b2 := by rw [← h2, show normS.toList = [78, 111, 114, 109, 97, 108] by simp [ByteArray.toList_eq]]
  clear h1 h2 ht hj HO0
  have S4 := hB.set 8 (.bool b1)
  simp only [List.set_cons_zero, List.set_cons_succ] at S4
  have T4 := turned_set w g 8 (.bool b1)
  have z0 := ck_at hB 0
  have z1 := ck_at hB 1
  have z2 := ck_at hB 2
  have z3 := ck_at hB 3
  have z4 := ck_at hB 4
  have z5 := ck_at hB 5
  have z6 := ck_at hB 6
  have z7 := ck_at hB 7
  have z8 := ck_at hB 8
  have z9 := ck_at hB 9
  have z10 := ck_at hB 10
  simp only [List.getElem?_cons_zero, List.getElem?_cons_succ] at z0 z1 z2 z3 z4 z5 z6 z7 z8 z9 z10
  have fz := ck_fz hB 8
  have F : Hid _ := And.intro T4 S4
  clear S4 T4 hB hk
  go_enter Tryd.func39, Tryd.ntmps39
  go_wp2_with fail
  refine (Calls.mono (HBd.out _)) ?_
  rintro e _ ⟨rfl, rfl⟩
  clear HBd
  go_upto_region 9 with fail
  have E0 : Hid _ := (HK.out 0 _ rfl)
  go_upto_region 12 with (refine wpList_value rfl (exec_eqS rfl rfl rfl (b := false) E0.out) ?_)
  clear E0
  have E1 : Hid _ := (HK.out 1 _ rfl)
  go_upto_region 15 with (refine wpList_value rfl (exec_eqS rfl rfl rfl (b := false) E1.out) ?_)
  clear E1
  have E2 : Hid _ := (HK.out 2 _ rfl)
  cases b1
  · go_wp2_with (first | (refine wpList_value rfl (exec_eqS rfl rfl rfl (b := true) E2.out) ?_) | (refine wpList_value rfl (exec_eqS rfl rfl rfl (b := false) H1.out) ?_) | (refine wpList_value rfl (exec_eqS rfl rfl rfl (b := b2) H2.out) ?_))
    refine bodyPost_ret (v := .tuple #[.string ⟨#[]⟩, .bool false, .bool b2]) (by first | rfl | simp [results, Tryd.results39, go_sem]) rfl ?_
    exact OneP.mk (p' := ⟨phs, pds, pmo, pmi, pbu, pfi, pa, pim, false, pini, ptgt⟩) (by have h := HO.out; first | exact h | simpa using h) (F.out.1) (fun _ => F.out.2)
  · go_wp2_with (first | (refine wpList_value rfl (exec_eqS rfl rfl rfl (b := true) E2.out) ?_) | (refine wpList_value rfl (exec_eqS rfl rfl rfl (b := true) H1.out) ?_) | (refine wpList_value rfl (exec_eqS rfl rfl rfl (b := b2) H2.out) ?_))
    refine bodyPost_ret (v := .tuple #[.string ⟨#[]⟩, .bool false, .bool true]) (by first | rfl | simp [results, Tryd.results39, go_sem]) rfl ?_
    exact OneP.mk (p' := ⟨phs, pds, pmo, pmi, pbu, pfi, pa, pim, true, pini, ptgt⟩) (by have h := HO.out; first | exact h | simpa using h) (F.out.1) (fun _ => F.out.2)
set_option maxHeartbeats 8000000 in
theorem rOne_3 (g : Nat) (p : Pm18) (k v : ByteArray) (w : World) (hj : keyIx k = 3) (hB : Blk w g 48 p.c) (hs : v.size ≤ 4194304) : Calls Tryd.prog 39 #[.pointer (some ⟨g, 0, none⟩), .string k, .string v] w fun e w' => OneP g p k v w e w' := by
  have hk : KF k 3 := by have h := (kf_any k).1; rw [hj] at h; exact h
  have HK : Hid _ := hk
  have HBd : Hid (∀ W, _) := fun W => rBd_3 k W hk
  have HO : Hid _ := OneR.yes (p := p) (v := v) hj (by decide) rfl rfl
  have F : Hid _ := And.intro (Turned.refl18 (fun k => k = g) w) hB
  clear hj hB hk
  go_enter Tryd.func39, Tryd.ntmps39
  go_wp2_with fail
  refine (Calls.mono (HBd.out _)) ?_
  rintro e _ ⟨rfl, rfl⟩
  clear HBd
  go_upto_region 9 with fail
  have E0 : Hid _ := (HK.out 0 _ rfl)
  go_upto_region 12 with (refine wpList_value rfl (exec_eqS rfl rfl rfl (b := false) E0.out) ?_)
  clear E0
  have E1 : Hid _ := (HK.out 1 _ rfl)
  go_upto_region 15 with (refine wpList_value rfl (exec_eqS rfl rfl rfl (b := false) E1.out) ?_)
  clear E1
  have E2 : Hid _ := (HK.out 2 _ rfl)
  go_upto_region 18 with (refine wpList_value rfl (exec_eqS rfl rfl rfl (b := false) E2.out) ?_)
  clear E2
  have E3 : Hid _ := (HK.out 3 _ rfl)
  go_wp2_with (first | (refine wpList_value rfl (exec_eqS rfl rfl rfl (b := true) E3.out) ?_))
  refine bodyPost_ret (v := .tuple #[.string ⟨#[]⟩, .bool false, .bool true]) (by first | rfl | simp [results, Tryd.results39, go_sem]) rfl ?_
  exact OneP.mk (HO.out) (F.out.1) (fun _ => F.out.2)
set_option maxHeartbeats 8000000 in
theorem rOne_4 (g : Nat) (p : Pm18) (k v : ByteArray) (w : World) (hj : keyIx k = 4) (hB : Blk w g 48 p.c) (hs : v.size ≤ 4194304) : Calls Tryd.prog 39 #[.pointer (some ⟨g, 0, none⟩), .string k, .string v] w fun e w' => OneP g p k v w e w' := by
  have hk : KF k 4 := by have h := (kf_any k).1; rw [hj] at h; exact h
  have HK : Hid _ := hk
  have HBd : Hid (∀ W, _) := fun W => rBd_4 k W hk
  have HO0 : OneR p k v (fstW [noneS] (wdS v)) true true p := OneR.yes hj (by decide) rfl (by rw [← firstM_words _ _ v (Nat.le_refl _)]; rfl)
  have HC : Hid _ := rWords_any v w hs
  have hlen := wdS_len v
  generalize wdS v = L at *
  have HO : Hid _ := HO0
  have F : Hid _ := hB
  clear HO0 hj hB hk
  go_enter Tryd.func39, Tryd.ntmps39
  go_wp2_with fail
  refine (Calls.mono (HBd.out _)) ?_
  rintro e _ ⟨rfl, rfl⟩
  clear HBd
  go_upto_region 9 with fail
  have E0 : Hid _ := (HK.out 0 _ rfl)
  go_upto_region 12 with (refine wpList_value rfl (exec_eqS rfl rfl rfl (b := false) E0.out) ?_)
  clear E0
  have E1 : Hid _ := (HK.out 1 _ rfl)
  go_upto_region 15 with (refine wpList_value rfl (exec_eqS rfl rfl rfl (b := false) E1.out) ?_)
  clear E1
  have E2 : Hid _ := (HK.out 2 _ rfl)
  go_upto_region 18 with (refine wpList_value rfl (exec_eqS rfl rfl rfl (b := false) E2.out) ?_)
  clear E2
  have E3 : Hid _ := (HK.out 3 _ rfl)
  go_upto_region 20 with (refine wpList_value rfl (exec_eqS rfl rfl rfl (b := false) E3.out) ?_)
  clear E3
  have E4 : Hid _ := (HK.out 4 _ rfl)
  go_wp2_with (first | (refine wpList_value rfl (exec_eqS rfl rfl rfl (b := true) E4.out) ?_))
  refine (Calls.mono HC.out) ?_
  rintro e w1 ⟨y, rfl, hI⟩
  clear HC
  obtain ⟨av, cv, rfl, hat⟩ := hI.at kSt_ok
  have HA : Hid _ := And.intro hat (And.intro ((turned_below hI.bel).mono (fun k h => h.elim) : Turned (fun k => k = g) w w1) (And.intro (Blk.laterB F.out hI.bel) hlen))
  clear hat hI hlen F HK E4
  obtain ⟨nl, hnl⟩ : ∃ nl, nl = L.length := ⟨_, rfl⟩
  rw [← hnl]
  have HNL : Hid _ := hnl
  clear hnl
  go_wp2_with fail
  go_loopw [17] (fun iv wr => ∃ k : Nat, iv = .int .i64 (k : Int) ∧ k ≤ L.length ∧ wr = w1 ∧ fstW [noneS] (L.drop k) = fstW [noneS] L) (fun iv _ => L.length - (intOf iv).toNat)
  case atStart => exact ⟨0, rfl, Nat.zero_le _, rfl, rfl⟩
  case round =>
    obtain ⟨i, rfl, hi, rfl, hd⟩ := hrel
    have hnl := HNL.out
    have hlen := HA.out.2.2.2
    by_cases hlt : i < L.length
    · have q1 : (i : Int) < (nl : Int) := by omega
      have q1n : i < nl := by omega
      have w5 : IntKind.i64.wrap ((i : Int) + 1) = (i : Int) + 1 := by rw [IntKind.wrap_i64]; omega
      have ha := HA.out.1
      rw [← hnl] at ha
      obtain ⟨b, off, rfl, hc⟩ := ha.each kSt_ok i hlt
      have hc0 := hc 0 (by simp [kSt])
      simp only [kSt, List.getElem?_cons_zero, Nat.add_zero, Nat.mul_one] at hc0
      have hsk := fst_skip hlt
      have hht := fst_hit hlt
      generalize L[i] = x at *
      obtain ⟨b1, h1⟩ : ∃ b, (x.toList == noneS.toList) = b := ⟨_, rfl⟩
      rw [h1] at hsk hht
      have H1 : Hid _ := h1
      clear h1 hc ha
      cases b1
      · have F : Hid _ := And.intro ((hsk rfl).trans hd) hlt
        clear hsk hht hd hlen hnl hi hlt
        go_wp2_with (refine wpList_value rfl (exec_eqS rfl rfl rfl (b := _) H1.out) ?_)
        go_roundw
        case rel => exact ⟨i + 1, by first | rfl | go_num, F.out.2, by trivial, F.out.1⟩
        case measure => have := F.out.2; simp [intOf]; omega
      · have F : Hid _ := (hht rfl).symm.trans hd
        clear hsk hht hd hlen hnl hi hlt
        go_wp2_with (refine wpList_value rfl (exec_eqS rfl rfl rfl (b := _) H1.out) ?_)
        refine bodyPost_ret (v := .tuple #[.string noneS, .bool true, .bool true]) (by first | rfl | simp [results, Tryd.results39, go_sem]) rfl ?_
        exact OneP.mk (by rw [F.out]; exact HO.out) (HA.out.2.1) (fun _ => HA.out.2.2.1)
    · obtain rfl : i = L.length := by omega
      rw [List.drop_length] at hd
      have F : Hid (rejS = fstW [noneS] L) := (hd : rejS = fstW [noneS] L)
      have t1 : ¬ ((L.length : Int) < (nl : Int)) := by omega
      have t2 : ¬ (L.length < nl) := by omega
      clear hd hlen hnl hi hlt
      go_wp2
      refine bodyPost_ret (v := .tuple #[.string rejS, .bool true, .bool true]) (by first | rfl | simp [results, Tryd.results39, go_sem]) rfl ?_
      exact OneP.mk (by rw [F.out]; exact HO.out) (HA.out.2.1) (fun _ => HA.out.2.2.1)
set_option maxHeartbeats 8000000 in
theorem rOne_5 (g : Nat) (p : Pm18) (k v : ByteArray) (w : World) (hj : keyIx k = 5) (hB : Blk w g 48 p.c) (hs : v.size ≤ 4194304) : Calls Tryd.prog 39 #[.pointer (some ⟨g, 0, none⟩), .string k, .string v] w fun e w' => OneP g p k v w e w' := by
  have hk : KF k 5 := by have h := (kf_any k).1; rw [hj] at h; exact h
  have HK : Hid _ := hk
  have HBd : Hid (∀ W, _) := fun W => rBd_5 k W hk
  obtain ⟨phs, pds, pmo, pmi, pbu, pfi, pa, pim, pdi, pini, ptgt⟩ := p
  unfold Pm18.c at hB
  simp only at hB
  have hfw := firstM_words [noneS, crcS] _ v (Nat.le_refl _)
  have HC0 := rDigest_any v w hs
  have h3 := dg3 (wdS v)
  generalize wdS v = L at *
  rcases h3 with ⟨hd, hf⟩ | ⟨hd, hf⟩ | ⟨hd, hf⟩
  · rw [hd] at HC0
    rw [hf] at hfw
    have HO0 : OneR ⟨phs, pds, pmo, pmi, pbu, pfi, pa, pim, pdi, pini, ptgt⟩ k v rejS true true ⟨phs, pds, pmo, pmi, pbu, pfi, pa, pim, pdi, pini, ptgt⟩ := OneR.yes hj (by decide) rfl (by unfold agM; simp only [hfw]; rw [show (rejS.toList == rejS.toList) = true by rw [beq_toList]; decide, show (rejS.toList == crcS.toList) = false by rw [beq_toList]; decide]; rfl)
    have HC : Hid _ := HC0
    have HO : Hid _ := HO0
    have F0 : Hid _ := hB
    clear HO0 HC0 hfw hd hf hj hB hk
    have D1 : Hid (((⟨#[]⟩ : ByteArray).toList == (⟨#[]⟩ : ByteArray).toList) = true) := (by rw [beq_toList]; decide : ((⟨#[]⟩ : ByteArray).toList == (⟨#[]⟩ : ByteArray).toList) = true)
    have D2 : Hid (((⟨#[]⟩ : ByteArray).toList == crcS.toList) = false) := (by rw [beq_toList]; decide : ((⟨#[]⟩ : ByteArray).toList == crcS.toList) = false)
    have K5 : Hid _ := (HK.out 5 _ rfl)
    have K6 : Hid _ := (HK.out 6 _ rfl)
    go_enter Tryd.func39, Tryd.ntmps39
    go_wp2_with fail
    refine (Calls.mono (HBd.out _)) ?_
    rintro e _ ⟨rfl, rfl⟩
    clear HBd
    go_upto_region 9 with fail
    have E0 : Hid _ := (HK.out 0 _ rfl)
    go_upto_region 12 with (refine wpList_value rfl (exec_eqS rfl rfl rfl (b := false) E0.out) ?_)
    clear E0
    have E1 : Hid _ := (HK.out 1 _ rfl)
    go_upto_region 15 with (refine wpList_value rfl (exec_eqS rfl rfl rfl (b := false) E1.out) ?_)
    clear E1
    have E2 : Hid _ := (HK.out 2 _ rfl)
    go_upto_region 18 with (refine wpList_value rfl (exec_eqS rfl rfl rfl (b := false) E2.out) ?_)
    clear E2
    have E3 : Hid _ := (HK.out 3 _ rfl)
    go_upto_region 20 with (refine wpList_value rfl (exec_eqS rfl rfl rfl (b := false) E3.out) ?_)
    clear E3
    have E4 : Hid _ := (HK.out 4 _ rfl)
    go_upto_region 28 with (refine wpList_value rfl (exec_eqS rfl rfl rfl (b := false) E4.out) ?_)
    clear E4
    have E5 : Hid _ := (HK.out 5 _ rfl)
    go_wp2_with (first | (refine wpList_value rfl (exec_eqS rfl rfl rfl (b := true) E5.out) ?_))
    refine (Calls.mono HC.out) ?_
    rintro e w1 ⟨rfl, b1⟩
    clear HC HK
    have hB := Blk.laterB F0.out b1
    have T1 : Turned (fun k => k = g) w w1 := (turned_below b1).mono (fun k h => h.elim)
    have F : Hid _ := And.intro T1 hB
    clear T1 b1 F0 hB
    go_wp2_with (first | (refine wpList_value rfl (exec_eqS rfl rfl rfl (b := _) K5.out) ?_) | (refine wpList_value rfl (exec_eqS rfl rfl rfl (b := _) K6.out) ?_) | (refine wpList_value rfl (exec_neS rfl rfl rfl (b := _) D1.out) ?_) | (refine wpList_value rfl (exec_eqS rfl rfl rfl (b := _) D2.out) ?_) | (refine wpList_value rfl (exec_eqS rfl rfl rfl (b := _) D1.out) ?_))
    refine bodyPost_ret (v := .tuple #[.string rejS, .bool true, .bool true]) (by first | rfl | simp [results, Tryd.results39, go_sem]) rfl ?_
    exact OneP.mk (HO.out) (F.out.1) (fun _ => F.out.2)
  · rw [hd] at HC0
    rw [hf] at hfw
    have HO0 : OneR ⟨phs, pds, pmo, pmi, pbu, pfi, pa, pim, pdi, pini, ptgt⟩ k v noneS true true ⟨false, pds, pmo, pmi, pbu, pfi, pa, pim, pdi, pini, ptgt⟩ := OneR.yes hj (by decide) rfl (by unfold agM; simp only [hfw]; rw [show (noneS.toList == rejS.toList) = false by rw [beq_toList]; decide, show (noneS.toList == crcS.toList) = false by rw [beq_toList]; decide]; rfl)
    have HC : Hid _ := HC0
    have HO : Hid _ := HO0
    have F0 : Hid _ := hB
    clear HO0 HC0 hfw hd hf hj hB hk
    have D1 : Hid ((noneS.toList == (⟨#[]⟩ : ByteArray).toList) = false) := (by rw [beq_toList]; decide : (noneS.toList == (⟨#[]⟩ : ByteArray).toList) = false)
    have D2 : Hid ((noneS.toList == crcS.toList) = false) := (by rw [beq_toList]; decide : (noneS.toList == crcS.toList) = false)
    have K5 : Hid _ := (HK.out 5 _ rfl)
    have K6 : Hid _ := (HK.out 6 _ rfl)
    go_enter Tryd.func39, Tryd.ntmps39
    go_wp2_with fail
    refine (Calls.mono (HBd.out _)) ?_
    rintro e _ ⟨rfl, rfl⟩
    clear HBd
    go_upto_region 9 with fail
    have E0 : Hid _ := (HK.out 0 _ rfl)
    go_upto_region 12 with (refine wpList_value rfl (exec_eqS rfl rfl rfl (b := false) E0.out) ?_)
    clear E0
    have E1 : Hid _ := (HK.out 1 _ rfl)
    go_upto_region 15 with (refine wpList_value rfl (exec_eqS rfl rfl rfl (b := false) E1.out) ?_)
    clear E1
    have E2 : Hid _ := (HK.out 2 _ rfl)
    go_upto_region 18 with (refine wpList_value rfl (exec_eqS rfl rfl rfl (b := false) E2.out) ?_)
    clear E2
    have E3 : Hid _ := (HK.out 3 _ rfl)
    go_upto_region 20 with (refine wpList_value rfl (exec_eqS rfl rfl rfl (b := false) E3.out) ?_)
    clear E3
    have E4 : Hid _ := (HK.out 4 _ rfl)
    go_upto_region 28 with (refine wpList_value rfl (exec_eqS rfl rfl rfl (b := false) E4.out) ?_)
    clear E4
    have E5 : Hid _ := (HK.out 5 _ rfl)
    go_wp2_with (first | (refine wpList_value rfl (exec_eqS rfl rfl rfl (b := true) E5.out) ?_))
    refine (Calls.mono HC.out) ?_
    rintro e w1 ⟨rfl, b1⟩
    clear HC HK
    have hB := Blk.laterB F0.out b1
    have T1 : Turned (fun k => k = g) w w1 := (turned_below b1).mono (fun k h => h.elim)
    have S4 := hB.set 0 (.bool false)
    simp only [List.set_cons_zero, List.set_cons_succ] at S4
    have T4 := T1.trans ((turned_set w1 g 0 (.bool false)).mono (fun k h => .inl h))
    have z0 := ck_at hB 0
    have z1 := ck_at hB 1
    have z2 := ck_at hB 2
    have z3 := ck_at hB 3
    have z4 := ck_at hB 4
    have z5 := ck_at hB 5
    have z6 := ck_at hB 6
    have z7 := ck_at hB 7
    have z8 := ck_at hB 8
    have z9 := ck_at hB 9
    have z10 := ck_at hB 10
    simp only [List.getElem?_cons_zero, List.getElem?_cons_succ] at z0 z1 z2 z3 z4 z5 z6 z7 z8 z9 z10
    have fz := ck_fz hB 0
    have F : Hid _ := And.intro T4 S4
    clear S4 T4 T1 b1 F0 hB
    go_wp2_with (first | (refine wpList_value rfl (exec_eqS rfl rfl rfl (b := _) K5.out) ?_) | (refine wpList_value rfl (exec_eqS rfl rfl rfl (b := _) K6.out) ?_) | (refine wpList_value rfl (exec_neS rfl rfl rfl (b := _) D1.out) ?_) | (refine wpList_value rfl (exec_eqS rfl rfl rfl (b := _) D2.out) ?_) | (refine wpList_value rfl (exec_eqS rfl rfl rfl (b := _) D1.out) ?_))
    refine bodyPost_ret (v := .tuple #[.string noneS, .bool true, .bool true]) (by first | rfl | simp [results, Tryd.results39, go_sem]) rfl ?_
    exact OneP.mk (HO.out) (F.out.1) (fun _ => F.out.2)
  · rw [hd] at HC0
    rw [hf] at hfw
    have HO0 : OneR ⟨phs, pds, pmo, pmi, pbu, pfi, pa, pim, pdi, pini, ptgt⟩ k v crcS true true ⟨true, pds, pmo, pmi, pbu, pfi, pa, pim, pdi, pini, ptgt⟩ := OneR.yes hj (by decide) rfl (by unfold agM; simp only [hfw]; rw [show (crcS.toList == rejS.toList) = false by rw [beq_toList]; decide, show (crcS.toList == crcS.toList) = true by rw [beq_toList]; decide]; rfl)
    have HC : Hid _ := HC0
    have HO : Hid _ := HO0
    have F0 : Hid _ := hB
    clear HO0 HC0 hfw hd hf hj hB hk
    have D1 : Hid ((crcS.toList == (⟨#[]⟩ : ByteArray).toList) = false) := (by rw [beq_toList]; decide : (crcS.toList == (⟨#[]⟩ : ByteArray).toList) = false)
    have D2 : Hid ((crcS.toList == crcS.toList) = true) := (by rw [beq_toList]; decide : (crcS.toList == crcS.toList) = true)
    have K5 : Hid _ := (HK.out 5 _ rfl)
    have K6 : Hid _ := (HK.out 6 _ rfl)
    go_enter Tryd.func39, Tryd.ntmps39
    go_wp2_with fail
    refine (Calls.mono (HBd.out _)) ?_
    rintro e _ ⟨rfl, rfl⟩
    clear HBd
    go_upto_region 9 with fail
    have E0 : Hid _ := (HK.out 0 _ rfl)
    go_upto_region 12 with (refine wpList_value rfl (exec_eqS rfl rfl rfl (b := false) E0.out) ?_)
    clear E0
    have E1 : Hid _ := (HK.out 1 _ rfl)
    go_upto_region 15 with (refine wpList_value rfl (exec_eqS rfl rfl rfl (b := false) E1.out) ?_)
    clear E1
    have E2 : Hid _ := (HK.out 2 _ rfl)
    go_upto_region 18 with (refine wpList_value rfl (exec_eqS rfl rfl rfl (b := false) E2.out) ?_)
    clear E2
    have E3 : Hid _ := (HK.out 3 _ rfl)
    go_upto_region 20 with (refine wpList_value rfl (exec_eqS rfl rfl rfl (b := false) E3.out) ?_)
    clear E3
    have E4 : Hid _ := (HK.out 4 _ rfl)
    go_upto_region 28 with (refine wpList_value rfl (exec_eqS rfl rfl rfl (b := false) E4.out) ?_)
    clear E4
    have E5 : Hid _ := (HK.out 5 _ rfl)
    go_wp2_with (first | (refine wpList_value rfl (exec_eqS rfl rfl rfl (b := true) E5.out) ?_))
    refine (Calls.mono HC.out) ?_
    rintro e w1 ⟨rfl, b1⟩
    clear HC HK
    have hB := Blk.laterB F0.out b1
    have T1 : Turned (fun k => k = g) w w1 := (turned_below b1).mono (fun k h => h.elim)
    have S4 := hB.set 0 (.bool true)
    simp only [List.set_cons_zero, List.set_cons_succ] at S4
    have T4 := T1.trans ((turned_set w1 g 0 (.bool true)).mono (fun k h => .inl h))
    have z0 := ck_at hB 0
    have z1 := ck_at hB 1
    have z2 := ck_at hB 2
    have z3 := ck_at hB 3
    have z4 := ck_at hB 4
    have z5 := ck_at hB 5
    have z6 := ck_at hB 6
    have z7 := ck_at hB 7
    have z8 := ck_at hB 8
    have z9 := ck_at hB 9
    have z10 := ck_at hB 10
    simp only [List.getElem?_cons_zero, List.getElem?_cons_succ] at z0 z1 z2 z3 z4 z5 z6 z7 z8 z9 z10
    have fz := ck_fz hB 0
    have F : Hid _ := And.intro T4 S4
    clear S4 T4 T1 b1 F0 hB
    go_wp2_with (first | (refine wpList_value rfl (exec_eqS rfl rfl rfl (b := _) K5.out) ?_) | (refine wpList_value rfl (exec_eqS rfl rfl rfl (b := _) K6.out) ?_) | (refine wpList_value rfl (exec_neS rfl rfl rfl (b := _) D1.out) ?_) | (refine wpList_value rfl (exec_eqS rfl rfl rfl (b := _) D2.out) ?_) | (refine wpList_value rfl (exec_eqS rfl rfl rfl (b := _) D1.out) ?_))
    refine bodyPost_ret (v := .tuple #[.string crcS, .bool true, .bool true]) (by first | rfl | simp [results, Tryd.results39, go_sem]) rfl ?_
    exact OneP.mk (HO.out) (F.out.1) (fun _ => F.out.2)
set_option maxHeartbeats 8000000 in
theorem rOne_6 (g : Nat) (p : Pm18) (k v : ByteArray) (w : World) (hj : keyIx k = 6) (hB : Blk w g 48 p.c) (hs : v.size ≤ 4194304) : Calls Tryd.prog 39 #[.pointer (some ⟨g, 0, none⟩), .string k, .string v] w fun e w' => OneP g p k v w e w' := by
  have hk : KF k 6 := by have h := (kf_any k).1; rw [hj] at h; exact h
  have HK : Hid _ := hk
  have HBd : Hid (∀ W, _) := fun W => rBd_6 k W hk
  obtain ⟨phs, pds, pmo, pmi, pbu, pfi, pa, pim, pdi, pini, ptgt⟩ := p
  unfold Pm18.c at hB
  simp only at hB
  have hfw := firstM_words [noneS, crcS] _ v (Nat.le_refl _)
  have HC0 := rDigest_any v w hs
  have h3 := dg3 (wdS v)
  generalize wdS v = L at *
  rcases h3 with ⟨hd, hf⟩ | ⟨hd, hf⟩ | ⟨hd, hf⟩
  · rw [hd] at HC0
    rw [hf] at hfw
    have HO0 : OneR ⟨phs, pds, pmo, pmi, pbu, pfi, pa, pim, pdi, pini, ptgt⟩ k v rejS true true ⟨phs, pds, pmo, pmi, pbu, pfi, pa, pim, pdi, pini, ptgt⟩ := OneR.yes hj (by decide) rfl (by unfold agM; simp only [hfw]; rw [show (rejS.toList == rejS.toList) = true by rw [beq_toList]; decide, show (rejS.toList == crcS.toList) = false by rw [beq_toList]; decide]; rfl)
    have HC : Hid _ := HC0
    have HO : Hid _ := HO0
    have F0 : Hid _ := hB
    clear HO0 HC0 hfw hd hf hj hB hk
    have D1 : Hid (((⟨#[]⟩ : ByteArray).toList == (⟨#[]⟩ : ByteArray).toList) = true) := (by rw [beq_toList]; decide : ((⟨#[]⟩ : ByteArray).toList == (⟨#[]⟩ : ByteArray).toList) = true)
    have D2 : Hid (((⟨#[]⟩ : ByteArray).toList == crcS.toList) = false) := (by rw [beq_toList]; decide : ((⟨#[]⟩ : ByteArray).toList == crcS.toList) = false)
    have K5 : Hid _ := (HK.out 5 _ rfl)
    have K6 : Hid _ := (HK.out 6 _ rfl)
    go_enter Tryd.func39, Tryd.ntmps39
    go_wp2_with fail
    refine (Calls.mono (HBd.out _)) ?_
    rintro e _ ⟨rfl, rfl⟩
    clear HBd
    go_upto_region 9 with fail
    have E0 : Hid _ := (HK.out 0 _ rfl)
    go_upto_region 12 with (refine wpList_value rfl (exec_eqS rfl rfl rfl (b := false) E0.out) ?_)
    clear E0
    have E1 : Hid _ := (HK.out 1 _ rfl)
    go_upto_region 15 with (refine wpList_value rfl (exec_eqS rfl rfl rfl (b := false) E1.out) ?_)
    clear E1
    have E2 : Hid _ := (HK.out 2 _ rfl)
    go_upto_region 18 with (refine wpList_value rfl (exec_eqS rfl rfl rfl (b := false) E2.out) ?_)
    clear E2
    have E3 : Hid _ := (HK.out 3 _ rfl)
    go_upto_region 20 with (refine wpList_value rfl (exec_eqS rfl rfl rfl (b := false) E3.out) ?_)
    clear E3
    have E4 : Hid _ := (HK.out 4 _ rfl)
    go_upto_region 28 with (refine wpList_value rfl (exec_eqS rfl rfl rfl (b := false) E4.out) ?_)
    clear E4
    have E5 : Hid _ := (HK.out 5 _ rfl)
    go_upto_region 29 with (refine wpList_value rfl (exec_eqS rfl rfl rfl (b := false) E5.out) ?_)
    clear E5
    have E6 : Hid _ := (HK.out 6 _ rfl)
    go_wp2_with (first | (refine wpList_value rfl (exec_eqS rfl rfl rfl (b := true) E6.out) ?_))
    refine (Calls.mono HC.out) ?_
    rintro e w1 ⟨rfl, b1⟩
    clear HC HK
    have hB := Blk.laterB F0.out b1
    have T1 : Turned (fun k => k = g) w w1 := (turned_below b1).mono (fun k h => h.elim)
    have F : Hid _ := And.intro T1 hB
    clear T1 b1 F0 hB
    go_wp2_with (first | (refine wpList_value rfl (exec_eqS rfl rfl rfl (b := _) K5.out) ?_) | (refine wpList_value rfl (exec_eqS rfl rfl rfl (b := _) K6.out) ?_) | (refine wpList_value rfl (exec_neS rfl rfl rfl (b := _) D1.out) ?_) | (refine wpList_value rfl (exec_eqS rfl rfl rfl (b := _) D2.out) ?_) | (refine wpList_value rfl (exec_eqS rfl rfl rfl (b := _) D1.out) ?_))
    refine bodyPost_ret (v := .tuple #[.string rejS, .bool true, .bool true]) (by first | rfl | simp [results, Tryd.results39, go_sem]) rfl ?_
    exact OneP.mk (HO.out) (F.out.1) (fun _ => F.out.2)
  · rw [hd] at HC0
    rw [hf] at hfw
    have HO0 : OneR ⟨phs, pds, pmo, pmi, pbu, pfi, pa, pim, pdi, pini, ptgt⟩ k v noneS true true ⟨phs, false, pmo, pmi, pbu, pfi, pa, pim, pdi, pini, ptgt⟩ := OneR.yes hj (by decide) rfl (by unfold agM; simp only [hfw]; rw [show (noneS.toList == rejS.toList) = false by rw [beq_toList]; decide, show (noneS.toList == crcS.toList) = false by rw [beq_toList]; decide]; rfl)
    have HC : Hid _ := HC0
    have HO : Hid _ := HO0
    have F0 : Hid _ := hB
    clear HO0 HC0 hfw hd hf hj hB hk
    have D1 : Hid ((noneS.toList == (⟨#[]⟩ : ByteArray).toList) = false) := (by rw [beq_toList]; decide : (noneS.toList == (⟨#[]⟩ : ByteArray).toList) = false)
    have D2 : Hid ((noneS.toList == crcS.toList) = false) := (by rw [beq_toList]; decide : (noneS.toList == crcS.toList) = false)
    have K5 : Hid _ := (HK.out 5 _ rfl)
    have K6 : Hid _ := (HK.out 6 _ rfl)
    go_enter Tryd.func39, Tryd.ntmps39
    go_wp2_with fail
    refine (Calls.mono (HBd.out _)) ?_
    rintro e _ ⟨rfl, rfl⟩
    clear HBd
    go_upto_region 9 with fail
    have E0 : Hid _ := (HK.out 0 _ rfl)
    go_upto_region 12 with (refine wpList_value rfl (exec_eqS rfl rfl rfl (b := false) E0.out) ?_)
    clear E0
    have E1 : Hid _ := (HK.out 1 _ rfl)
    go_upto_region 15 with (refine wpList_value rfl (exec_eqS rfl rfl rfl (b := false) E1.out) ?_)
    clear E1
    have E2 : Hid _ := (HK.out 2 _ rfl)
    go_upto_region 18 with (refine wpList_value rfl (exec_eqS rfl rfl rfl (b := false) E2.out) ?_)
    clear E2
    have E3 : Hid _ := (HK.out 3 _ rfl)
    go_upto_region 20 with (refine wpList_value rfl (exec_eqS rfl rfl rfl (b := false) E3.out) ?_)
    clear E3
    have E4 : Hid _ := (HK.out 4 _ rfl)
    go_upto_region 28 with (refine wpList_value rfl (exec_eqS rfl rfl rfl (b := false) E4.out) ?_)
    clear E4
    have E5 : Hid _ := (HK.out 5 _ rfl)
    go_upto_region 29 with (refine wpList_value rfl (exec_eqS rfl rfl rfl (b := false) E5.out) ?_)
    clear E5
    have E6 : Hid _ := (HK.out 6 _ rfl)
    go_wp2_with (first | (refine wpList_value rfl (exec_eqS rfl rfl rfl (b := true) E6.out) ?_))
    refine (Calls.mono HC.out) ?_
    rintro e w1 ⟨rfl, b1⟩
    clear HC HK
    have hB := Blk.laterB F0.out b1
    have T1 : Turned (fun k => k = g) w w1 := (turned_below b1).mono (fun k h => h.elim)
    have S4 := hB.set 1 (.bool false)
    simp only [List.set_cons_zero, List.set_cons_succ] at S4
    have T4 := T1.trans ((turned_set w1 g 1 (.bool false)).mono (fun k h => .inl h))
    have z0 := ck_at hB 0
    have z1 := ck_at hB 1
    have z2 := ck_at hB 2
    have z3 := ck_at hB 3
    have z4 := ck_at hB 4
    have z5 := ck_at hB 5
    have z6 := ck_at hB 6
    have z7 := ck_at hB 7
    have z8 := ck_at hB 8
    have z9 := ck_at hB 9
    have z10 := ck_at hB 10
    simp only [List.getElem?_cons_zero, List.getElem?_cons_succ] at z0 z1 z2 z3 z4 z5 z6 z7 z8 z9 z10
    have fz := ck_fz hB 1
    have F : Hid _ := And.intro T4 S4
    clear S4 T4 T1 b1 F0 hB
    go_wp2_with (first | (refine wpList_value rfl (exec_eqS rfl rfl rfl (b := _) K5.out) ?_) | (refine wpList_value rfl (exec_eqS rfl rfl rfl (b := _) K6.out) ?_) | (refine wpList_value rfl (exec_neS rfl rfl rfl (b := _) D1.out) ?_) | (refine wpList_value rfl (exec_eqS rfl rfl rfl (b := _) D2.out) ?_) | (refine wpList_value rfl (exec_eqS rfl rfl rfl (b := _) D1.out) ?_))
    refine bodyPost_ret (v := .tuple #[.string noneS, .bool true, .bool true]) (by first | rfl | simp [results, Tryd.results39, go_sem]) rfl ?_
    exact OneP.mk (HO.out) (F.out.1) (fun _ => F.out.2)
  · rw [hd] at HC0
    rw [hf] at hfw
    have HO0 : OneR ⟨phs, pds, pmo, pmi, pbu, pfi, pa, pim, pdi, pini, ptgt⟩ k v crcS true true ⟨phs, true, pmo, pmi, pbu, pfi, pa, pim, pdi, pini, ptgt⟩ := OneR.yes hj (by decide) rfl (by unfold agM; simp only [hfw]; rw [show (crcS.toList == rejS.toList) = false by rw [beq_toList]; decide, show (crcS.toList == crcS.toList) = true by rw [beq_toList]; decide]; rfl)
    have HC : Hid _ := HC0
    have HO : Hid _ := HO0
    have F0 : Hid _ := hB
    clear HO0 HC0 hfw hd hf hj hB hk
    have D1 : Hid ((crcS.toList == (⟨#[]⟩ : ByteArray).toList) = false) := (by rw [beq_toList]; decide : (crcS.toList == (⟨#[]⟩ : ByteArray).toList) = false)
    have D2 : Hid ((crcS.toList == crcS.toList) = true) := (by rw [beq_toList]; decide : (crcS.toList == crcS.toList) = true)
    have K5 : Hid _ := (HK.out 5 _ rfl)
    have K6 : Hid _ := (HK.out 6 _ rfl)
    go_enter Tryd.func39, Tryd.ntmps39
    go_wp2_with fail
    refine (Calls.mono (HBd.out _)) ?_
    rintro e _ ⟨rfl, rfl⟩
    clear HBd
    go_upto_region 9 with fail
    have E0 : Hid _ := (HK.out 0 _ rfl)
    go_upto_region 12 with (refine wpList_value rfl (exec_eqS rfl rfl rfl (b := false) E0.out) ?_)
    clear E0
    have E1 : Hid _ := (HK.out 1 _ rfl)
    go_upto_region 15 with (refine wpList_value rfl (exec_eqS rfl rfl rfl (b := false) E1.out) ?_)
    clear E1
    have E2 : Hid _ := (HK.out 2 _ rfl)
    go_upto_region 18 with (refine wpList_value rfl (exec_eqS rfl rfl rfl (b := false) E2.out) ?_)
    clear E2
    have E3 : Hid _ := (HK.out 3 _ rfl)
    go_upto_region 20 with (refine wpList_value rfl (exec_eqS rfl rfl rfl (b := false) E3.out) ?_)
    clear E3
    have E4 : Hid _ := (HK.out 4 _ rfl)
    go_upto_region 28 with (refine wpList_value rfl (exec_eqS rfl rfl rfl (b := false) E4.out) ?_)
    clear E4
    have E5 : Hid _ := (HK.out 5 _ rfl)
    go_upto_region 29 with (refine wpList_value rfl (exec_eqS rfl rfl rfl (b := false) E5.out) ?_)
    clear E5
    have E6 : Hid _ := (HK.out 6 _ rfl)
    go_wp2_with (first | (refine wpList_value rfl (exec_eqS rfl rfl rfl (b := true) E6.out) ?_))
    refine (Calls.mono HC.out) ?_
    rintro e w1 ⟨rfl, b1⟩
    clear HC HK
    have hB := Blk.laterB F0.out b1
    have T1 : Turned (fun k => k = g) w w1 := (turned_below b1).mono (fun k h => h.elim)
    have S4 := hB.set 1 (.bool true)
    simp only [List.set_cons_zero, List.set_cons_succ] at S4
    have T4 := T1.trans ((turned_set w1 g 1 (.bool true)).mono (fun k h => .inl h))
    have z0 := ck_at hB 0
    have z1 := ck_at hB 1
    have z2 := ck_at hB 2
    have z3 := ck_at hB 3
    have z4 := ck_at hB 4
    have z5 := ck_at hB 5
    have z6 := ck_at hB 6
    have z7 := ck_at hB 7
    have z8 := ck_at hB 8
    have z9 := ck_at hB 9
    have z10 := ck_at hB 10
    simp only [List.getElem?_cons_zero, List.getElem?_cons_succ] at z0 z1 z2 z3 z4 z5 z6 z7 z8 z9 z10
    have fz := ck_fz hB 1
    have F : Hid _ := And.intro T4 S4
    clear S4 T4 T1 b1 F0 hB
    go_wp2_with (first | (refine wpList_value rfl (exec_eqS rfl rfl rfl (b := _) K5.out) ?_) | (refine wpList_value rfl (exec_eqS rfl rfl rfl (b := _) K6.out) ?_) | (refine wpList_value rfl (exec_neS rfl rfl rfl (b := _) D1.out) ?_) | (refine wpList_value rfl (exec_eqS rfl rfl rfl (b := _) D2.out) ?_) | (refine wpList_value rfl (exec_eqS rfl rfl rfl (b := _) D1.out) ?_))
    refine bodyPost_ret (v := .tuple #[.string crcS, .bool true, .bool true]) (by first | rfl | simp [results, Tryd.results39, go_sem]) rfl ?_
    exact OneP.mk (HO.out) (F.out.1) (fun _ => F.out.2)
set_option maxHeartbeats 8000000 in
theorem rOne_7 (g : Nat) (p : Pm18) (k v : ByteArray) (w : World) (hj : keyIx k = 7) (hB : Blk w g 48 p.c) (hs : v.size ≤ 4194304) : Calls Tryd.prog 39 #[.pointer (some ⟨g, 0, none⟩), .string k, .string v] w fun e w' => OneP g p k v w e w' := by
  have hk : KF k 7 := by have h := (kf_any k).1; rw [hj] at h; exact h
  have HK : Hid _ := hk
  have HBd : Hid (∀ W, _) := fun W => rBd_7 k W hk
  have HN0 := rNumber_any v w (by omega)
  obtain ⟨n, hn⟩ : ∃ n, n = (nuR v.data.toList).1 := ⟨_, rfl⟩
  obtain ⟨E, hE⟩ : ∃ E, E = (nuR v.data.toList).2 := ⟨_, rfl⟩
  rw [← hn, ← hE] at HN0
  have ht : takesM (rlI 7) v = (E == 0 && (decide ((512 : Int) ≤ n) && decide (n ≤ 16777215))) := by rw [hn, hE]; rfl
  have hag : agM 7 (rlI 7).an p v = nmM 7 p n := by rw [hn]; rfl
  have HN : Hid _ := HN0
  clear HN0 hn hE
  by_cases hok : E = 0 ∧ (512 : Int) ≤ n ∧ n ≤ 16777215
  · obtain ⟨rfl, q1, q2⟩ := hok
    have q3 : ¬ (n < 512) := by omega
    have q4 : ¬ ((16777215 : Int) < n) := by omega
    have HO : Hid _ := OneR.yes (p := p) (v := v) hj (by decide) (by rw [ht, decide_eq_true q1, decide_eq_true q2]; rfl) hag
    have HM : Hid _ := rNm_7 g p k n w hk hB
    clear hj ht hag hB hk q1 q2
    go_enter Tryd.func39, Tryd.ntmps39
    go_wp2_with fail
    refine (Calls.mono (HBd.out _)) ?_
    rintro e _ ⟨rfl, rfl⟩
    clear HBd
    go_wp2_with fail
    refine (Calls.mono HN.out) ?_
    rintro e _ ⟨rfl, rfl⟩
    clear HN
    go_wp2_with fail
    refine (Calls.mono HM.out) ?_
    rintro e w5 ⟨rfl, t5, B5⟩
    have F : Hid _ := And.intro t5 B5
    clear HM t5 B5
    go_wp2
    refine bodyPost_ret (v := .tuple #[.string (nmM 7 p n).2.1, .bool (nmM 7 p n).2.2, .bool true]) (by first | rfl | simp [results, Tryd.results39, go_sem]) rfl ?_
    exact OneP.mk (HO.out) (F.out.1) (fun _ => F.out.2)
  · by_cases hE : E = 0
    · subst hE
      by_cases q1 : n < 512
      · have HO : Hid _ := OneR.no (p := p) (p' := p) (a := ⟨#[]⟩) (t := false) (v := v) hj (by decide) (by rw [ht]; rw [decide_eq_false (by omega : ¬ (512 : Int) ≤ n)]; simp)
        have F : Hid _ := Turned.refl18 (fun k => k = g) w
        clear hj ht hag hB hk hok
        go_enter Tryd.func39, Tryd.ntmps39
        go_wp2_with fail
        refine (Calls.mono (HBd.out _)) ?_
        rintro e _ ⟨rfl, rfl⟩
        clear HBd
        go_wp2_with fail
        refine (Calls.mono HN.out) ?_
        rintro e _ ⟨rfl, rfl⟩
        clear HN
        go_wp2
        refine bodyPost_ret (v := .tuple #[.string ⟨#[]⟩, .bool false, .bool false]) (by first | rfl | simp [results, Tryd.results39, go_sem]) rfl ?_
        exact OneP.mk (HO.out) (F.out) (fun h => by cases h)
      · have q2 : (16777215 : Int) < n := by omega
        have HO : Hid _ := OneR.no (p := p) (p' := p) (a := ⟨#[]⟩) (t := false) (v := v) hj (by decide) (by rw [ht]; rw [decide_eq_false (by omega : ¬ n ≤ (16777215 : Int))]; simp)
        have F : Hid _ := Turned.refl18 (fun k => k = g) w
        clear hj ht hag hB hk hok
        go_enter Tryd.func39, Tryd.ntmps39
        go_wp2_with fail
        refine (Calls.mono (HBd.out _)) ?_
        rintro e _ ⟨rfl, rfl⟩
        clear HBd
        go_wp2_with fail
        refine (Calls.mono HN.out) ?_
        rintro e _ ⟨rfl, rfl⟩
        clear HN
        go_wp2
        refine bodyPost_ret (v := .tuple #[.string ⟨#[]⟩, .bool false, .bool false]) (by first | rfl | simp [results, Tryd.results39, go_sem]) rfl ?_
        exact OneP.mk (HO.out) (F.out) (fun h => by cases h)
    · have dE : (E == 0) = false := by simpa using hE
      have dN : (E != 0) = true := by simpa using hE
      have HO : Hid _ := OneR.no (p := p) (p' := p) (a := ⟨#[]⟩) (t := false) (v := v) hj (by decide) (by rw [ht]; rw [dE]; rfl)
      have F : Hid _ := Turned.refl18 (fun k => k = g) w
      clear hj ht hag hB hk hok
      go_enter Tryd.func39, Tryd.ntmps39
      go_wp2_with fail
      refine (Calls.mono (HBd.out _)) ?_
      rintro e _ ⟨rfl, rfl⟩
      clear HBd
      go_wp2_with fail
      refine (Calls.mono HN.out) ?_
      rintro e _ ⟨rfl, rfl⟩
      clear HN
      go_wp2
      refine bodyPost_ret (v := .tuple #[.string ⟨#[]⟩, .bool false, .bool false]) (by first | rfl | simp [results, Tryd.results39, go_sem]) rfl ?_
      exact OneP.mk (HO.out) (F.out) (fun h => by cases h)
set_option maxHeartbeats 8000000 in
theorem rOne_8 (g : Nat) (p : Pm18) (k v : ByteArray) (w : World) (hj : keyIx k = 8) (hB : Blk w g 48 p.c) (hs : v.size ≤ 4194304) : Calls Tryd.prog 39 #[.pointer (some ⟨g, 0, none⟩), .string k, .string v] w fun e w' => OneP g p k v w e w' := by
  have hk : KF k 8 := by have h := (kf_any k).1; rw [hj] at h; exact h
  have HK : Hid _ := hk
  have HBd : Hid (∀ W, _) := fun W => rBd_8 k W hk
  have HN0 := rNumber_any v w (by omega)
  obtain ⟨n, hn⟩ : ∃ n, n = (nuR v.data.toList).1 := ⟨_, rfl⟩
  obtain ⟨E, hE⟩ : ∃ E, E = (nuR v.data.toList).2 := ⟨_, rfl⟩
  rw [← hn, ← hE] at HN0
  have ht : takesM (rlI 8) v = (E == 0 && (decide ((512 : Int) ≤ n) && decide (n ≤ 16777215))) := by rw [hn, hE]; rfl
  have hag : agM 8 (rlI 8).an p v = nmM 8 p n := by rw [hn]; rfl
  have HN : Hid _ := HN0
  clear HN0 hn hE
  by_cases hok : E = 0 ∧ (512 : Int) ≤ n ∧ n ≤ 16777215
  · obtain ⟨rfl, q1, q2⟩ := hok
    have q3 : ¬ (n < 512) := by omega
    have q4 : ¬ ((16777215 : Int) < n) := by omega
    have HO : Hid _ := OneR.yes (p := p) (v := v) hj (by decide) (by rw [ht, decide_eq_true q1, decide_eq_true q2]; rfl) hag
    have HM : Hid _ := rNm_8 g p k n w hk hB
    clear hj ht hag hB hk q1 q2
    go_enter Tryd.func39, Tryd.ntmps39
    go_wp2_with fail
    refine (Calls.mono (HBd.out _)) ?_
    rintro e _ ⟨rfl, rfl⟩
    clear HBd
    go_wp2_with fail
    refine (Calls.mono HN.out) ?_
    rintro e _ ⟨rfl, rfl⟩
    clear HN
    go_wp2_with fail
    refine (Calls.mono HM.out) ?_
    rintro e w5 ⟨rfl, t5, B5⟩
    have F : Hid _ := And.intro t5 B5
    clear HM t5 B5
    go_wp2
    refine bodyPost_ret (v := .tuple #[.string (nmM 8 p n).2.1, .bool (nmM 8 p n).2.2, .bool true]) (by first | rfl | simp [results, Tryd.results39, go_sem]) rfl ?_
    exact OneP.mk (HO.out) (F.out.1) (fun _ => F.out.2)
  · by_cases hE : E = 0
    · subst hE
      by_cases q1 : n < 512
      · have HO : Hid _ := OneR.no (p := p) (p' := p) (a := ⟨#[]⟩) (t := false) (v := v) hj (by decide) (by rw [ht]; rw [decide_eq_false (by omega : ¬ (512 : Int) ≤ n)]; simp)
        have F : Hid _ := Turned.refl18 (fun k => k = g) w
        clear hj ht hag hB hk hok
        go_enter Tryd.func39, Tryd.ntmps39
        go_wp2_with fail
        refine (Calls.mono (HBd.out _)) ?_
        rintro e _ ⟨rfl, rfl⟩
        clear HBd
        go_wp2_with fail
        refine (Calls.mono HN.out) ?_
        rintro e _ ⟨rfl, rfl⟩
        clear HN
        go_wp2
        refine bodyPost_ret (v := .tuple #[.string ⟨#[]⟩, .bool false, .bool false]) (by first | rfl | simp [results, Tryd.results39, go_sem]) rfl ?_
        exact OneP.mk (HO.out) (F.out) (fun h => by cases h)
      · have q2 : (16777215 : Int) < n := by omega
        have HO : Hid _ := OneR.no (p := p) (p' := p) (a := ⟨#[]⟩) (t := false) (v := v) hj (by decide) (by rw [ht]; rw [decide_eq_false (by omega : ¬ n ≤ (16777215 : Int))]; simp)
        have F : Hid _ := Turned.refl18 (fun k => k = g) w
        clear hj ht hag hB hk hok
        go_enter Tryd.func39, Tryd.ntmps39
        go_wp2_with fail
        refine (Calls.mono (HBd.out _)) ?_
        rintro e _ ⟨rfl, rfl⟩
        clear HBd
        go_wp2_with fail
        refine (Calls.mono HN.out) ?_
        rintro e _ ⟨rfl, rfl⟩
        clear HN
        go_wp2
        refine bodyPost_ret (v := .tuple #[.string ⟨#[]⟩, .bool false, .bool false]) (by first | rfl | simp [results, Tryd.results39, go_sem]) rfl ?_
        exact OneP.mk (HO.out) (F.out) (fun h => by cases h)
    · have dE : (E == 0) = false := by simpa using hE
      have dN : (E != 0) = true := by simpa using hE
      have HO : Hid _ := OneR.no (p := p) (p' := p) (a := ⟨#[]⟩) (t := false) (v := v) hj (by decide) (by rw [ht]; rw [dE]; rfl)
      have F : Hid _ := Turned.refl18 (fun k => k = g) w
      clear hj ht hag hB hk hok
      go_enter Tryd.func39, Tryd.ntmps39
      go_wp2_with fail
      refine (Calls.mono (HBd.out _)) ?_
      rintro e _ ⟨rfl, rfl⟩
      clear HBd
      go_wp2_with fail
      refine (Calls.mono HN.out) ?_
      rintro e _ ⟨rfl, rfl⟩
      clear HN
      go_wp2
      refine bodyPost_ret (v := .tuple #[.string ⟨#[]⟩, .bool false, .bool false]) (by first | rfl | simp [results, Tryd.results39, go_sem]) rfl ?_
      exact OneP.mk (HO.out) (F.out) (fun h => by cases h)
set_option maxHeartbeats 8000000 in
theorem rOne_9 (g : Nat) (p : Pm18) (k v : ByteArray) (w : World) (hj : keyIx k = 9) (hB : Blk w g 48 p.c) (hs : v.size ≤ 4194304) : Calls Tryd.prog 39 #[.pointer (some ⟨g, 0, none⟩), .string k, .string v] w fun e w' => OneP g p k v w e w' := by
  have hk : KF k 9 := by have h := (kf_any k).1; rw [hj] at h; exact h
  have HK : Hid _ := hk
  have HBd : Hid (∀ W, _) := fun W => rBd_9 k W hk
  have HN0 := rNumber_any v w (by omega)
  obtain ⟨n, hn⟩ : ∃ n, n = (nuR v.data.toList).1 := ⟨_, rfl⟩
  obtain ⟨E, hE⟩ : ∃ E, E = (nuR v.data.toList).2 := ⟨_, rfl⟩
  rw [← hn, ← hE] at HN0
  have ht : takesM (rlI 9) v = (E == 0 && (decide ((512 : Int) ≤ n) && decide (n ≤ 16777215))) := by rw [hn, hE]; rfl
  have hag : agM 9 (rlI 9).an p v = nmM 9 p n := by rw [hn]; rfl
  have HN : Hid _ := HN0
  clear HN0 hn hE
  by_cases hok : E = 0 ∧ (512 : Int) ≤ n ∧ n ≤ 16777215
  · obtain ⟨rfl, q1, q2⟩ := hok
    have q3 : ¬ (n < 512) := by omega
    have q4 : ¬ ((16777215 : Int) < n) := by omega
    have HO : Hid _ := OneR.yes (p := p) (v := v) hj (by decide) (by rw [ht, decide_eq_true q1, decide_eq_true q2]; rfl) hag
    have HM : Hid _ := rNm_9 g p k n w hk hB
    clear hj ht hag hB hk q1 q2
    go_enter Tryd.func39, Tryd.ntmps39
    go_wp2_with fail
    refine (Calls.mono (HBd.out _)) ?_
    rintro e _ ⟨rfl, rfl⟩
    clear HBd
    go_wp2_with fail
    refine (Calls.mono HN.out) ?_
    rintro e _ ⟨rfl, rfl⟩
    clear HN
    go_wp2_with fail
    refine (Calls.mono HM.out) ?_
    rintro e w5 ⟨rfl, t5, B5⟩
    have F : Hid _ := And.intro t5 B5
    clear HM t5 B5
    go_wp2
    refine bodyPost_ret (v := .tuple #[.string (nmM 9 p n).2.1, .bool (nmM 9 p n).2.2, .bool true]) (by first | rfl | simp [results, Tryd.results39, go_sem]) rfl ?_
    exact OneP.mk (HO.out) (F.out.1) (fun _ => F.out.2)
  · by_cases hE : E = 0
    · subst hE
      by_cases q1 : n < 512
      · have HO : Hid _ := OneR.no (p := p) (p' := p) (a := ⟨#[]⟩) (t := false) (v := v) hj (by decide) (by rw [ht]; rw [decide_eq_false (by omega : ¬ (512 : Int) ≤ n)]; simp)
        have F : Hid _ := Turned.refl18 (fun k => k = g) w
        clear hj ht hag hB hk hok
        go_enter Tryd.func39, Tryd.ntmps39
        go_wp2_with fail
        refine (Calls.mono (HBd.out _)) ?_
        rintro e _ ⟨rfl, rfl⟩
        clear HBd
        go_wp2_with fail
        refine (Calls.mono HN.out) ?_
        rintro e _ ⟨rfl, rfl⟩
        clear HN
        go_wp2
        refine bodyPost_ret (v := .tuple #[.string ⟨#[]⟩, .bool false, .bool false]) (by first | rfl | simp [results, Tryd.results39, go_sem]) rfl ?_
        exact OneP.mk (HO.out) (F.out) (fun h => by cases h)
      · have q2 : (16777215 : Int) < n := by omega
        have HO : Hid _ := OneR.no (p := p) (p' := p) (a := ⟨#[]⟩) (t := false) (v := v) hj (by decide) (by rw [ht]; rw [decide_eq_false (by omega : ¬ n ≤ (16777215 : Int))]; simp)
        have F : Hid _ := Turned.refl18 (fun k => k = g) w
        clear hj ht hag hB hk hok
        go_enter Tryd.func39, Tryd.ntmps39
        go_wp2_with fail
        refine (Calls.mono (HBd.out _)) ?_
        rintro e _ ⟨rfl, rfl⟩
        clear HBd
        go_wp2_with fail
        refine (Calls.mono HN.out) ?_
        rintro e _ ⟨rfl, rfl⟩
        clear HN
        go_wp2
        refine bodyPost_ret (v := .tuple #[.string ⟨#[]⟩, .bool false, .bool false]) (by first | rfl | simp [results, Tryd.results39, go_sem]) rfl ?_
        exact OneP.mk (HO.out) (F.out) (fun h => by cases h)
    · have dE : (E == 0) = false := by simpa using hE
      have dN : (E != 0) = true := by simpa using hE
      have HO : Hid _ := OneR.no (p := p) (p' := p) (a := ⟨#[]⟩) (t := false) (v := v) hj (by decide) (by rw [ht]; rw [dE]; rfl)
      have F : Hid _ := Turned.refl18 (fun k => k = g) w
      clear hj ht hag hB hk hok
      go_enter Tryd.func39, Tryd.ntmps39
      go_wp2_with fail
      refine (Calls.mono (HBd.out _)) ?_
      rintro e _ ⟨rfl, rfl⟩
      clear HBd
      go_wp2_with fail
      refine (Calls.mono HN.out) ?_
      rintro e _ ⟨rfl, rfl⟩
      clear HN
      go_wp2
      refine bodyPost_ret (v := .tuple #[.string ⟨#[]⟩, .bool false, .bool false]) (by first | rfl | simp [results, Tryd.results39, go_sem]) rfl ?_
      exact OneP.mk (HO.out) (F.out) (fun h => by cases h)
set_option maxHeartbeats 8000000 in
theorem rOne_10 (g : Nat) (p : Pm18) (k v : ByteArray) (w : World) (hj : keyIx k = 10) (hB : Blk w g 48 p.c) (hs : v.size ≤ 4194304) : Calls Tryd.prog 39 #[.pointer (some ⟨g, 0, none⟩), .string k, .string v] w fun e w' => OneP g p k v w e w' := by
  have hk : KF k 10 := by have h := (kf_any k).1; rw [hj] at h; exact h
  have HK : Hid _ := hk
  have HBd : Hid (∀ W, _) := fun W => rBd_10 k W hk
  have N1 := Blk.new' w 48 [.bool false, .bool false, .int .i64 0, .int .i64 0, .int .i64 0, .int .i64 0, .bool false, .bool false, .bool false, .string ⟨#[]⟩, .string ⟨#[]⟩]
  have bn1 : Below w.heap.size w (w.alloc (.cells #[.bool false, .bool false, .int .i64 0, .int .i64 0, .int .i64 0, .int .i64 0, .bool false, .bool false, .bool false, .string ⟨#[]⟩, .string ⟨#[]⟩] 48)) := (Below.refl _ _).alloc (Nat.le_refl _) _
  obtain ⟨w1, hw1⟩ : ∃ w1, w1 = w.alloc (.cells #[.bool false, .bool false, .int .i64 0, .int .i64 0, .int .i64 0, .int .i64 0, .bool false, .bool false, .bool false, .string ⟨#[]⟩, .string ⟨#[]⟩] 48) := ⟨_, rfl⟩
  rw [← hw1] at N1 bn1
  obtain ⟨g0, hg0⟩ : ∃ y, y = w.heap.size := ⟨_, rfl⟩
  rw [← hg0] at N1
  have hne : g ≠ g0 := by have := hB.lt; omega
  have HFn : Hid _ := rFl_10 g0 (⟨false, false, 0, 0, 0, 0, false, false, false, ⟨#[]⟩, ⟨#[]⟩⟩ : Pm18) k true w1 hk N1
  have HT : Hid (∀ W, Turned (fun k => k = g0) w1 W → Turned (fun k => k = g) w W ∧ Blk W g 48 p.c) := (fun W t => ⟨((turned_below bn1).mono (fun k h => h.elim)).trans (t.mono (fun k e => .inr (by rw [e, hg0]; exact Nat.le_refl _))), (hB.laterB bn1).turned t hne⟩ : ∀ W, Turned (fun k => k = g0) w1 W → Turned (fun k => k = g) w W ∧ Blk W g 48 p.c)
  have D1 : Hid ((yesS.toList == (⟨#[]⟩ : ByteArray).toList) = false) := (by rw [beq_toList]; decide : (yesS.toList == (⟨#[]⟩ : ByteArray).toList) = false)
  obtain ⟨b1, h1⟩ : ∃ b, (v.toList == yesS.toList) = b := ⟨_, rfl⟩
  obtain ⟨b2, h2⟩ : ∃ b, (v.toList == noS.toList) = b := ⟨_, rfl⟩
  have ht : takesM (rlI 10) v = (b1 || b2) := by rw [← h1, ← h2]; rfl
  have hag : ∀ p, agM 10 (rlI 10).an p v = ((flM 10 p b1).1, (flM 10 p b1).2, true) := fun p => by rw [← h1]; rfl
  have HO : Hid _ := And.intro (fun (h : b1 || b2) => OneR.yes (p := p) (v := v) hj (by decide) (ht.trans h) (hag p)) (fun (h : (b1 || b2) = false) => OneR.no (p := p) (p' := p) (a := ⟨#[]⟩) (t := false) (v := v) hj (by decide) (ht.trans h))
  have H1 : Hid _ := h1
  have H2 : Hid _ := h2
  have l2 : (v.toList == [78, 111]) = b2 := by rw [← h2, show noS.toList = [78, 111] by simp [ByteArray.toList_eq]]
  have HFl : Hid (∀ W, Blk W g 48 p.c → _) := fun W hW => rFl_10 g p k b1 W hk hW
  clear h1 h2 ht hag
  clear hj hk hB bn1 N1 hne
  go_enter Tryd.func39, Tryd.ntmps39
  go_wp2_with fail
  refine (Calls.mono (HBd.out _)) ?_
  rintro e _ ⟨rfl, rfl⟩
  clear HBd
  go_upto_region 9 with fail
  have E0 : Hid _ := (HK.out 0 _ rfl)
  go_upto_region 12 with (refine wpList_value rfl (exec_eqS rfl rfl rfl (b := false) E0.out) ?_)
  clear E0
  have E1 : Hid _ := (HK.out 1 _ rfl)
  go_upto_region 15 with (refine wpList_value rfl (exec_eqS rfl rfl rfl (b := false) E1.out) ?_)
  clear E1
  have E2 : Hid _ := (HK.out 2 _ rfl)
  go_upto_region 18 with (refine wpList_value rfl (exec_eqS rfl rfl rfl (b := false) E2.out) ?_)
  clear E2
  have E3 : Hid _ := (HK.out 3 _ rfl)
  go_upto_region 20 with (refine wpList_value rfl (exec_eqS rfl rfl rfl (b := false) E3.out) ?_)
  clear E3
  have E4 : Hid _ := (HK.out 4 _ rfl)
  go_upto_region 28 with (refine wpList_value rfl (exec_eqS rfl rfl rfl (b := false) E4.out) ?_)
  clear E4
  have E5 : Hid _ := (HK.out 5 _ rfl)
  go_upto_region 29 with (refine wpList_value rfl (exec_eqS rfl rfl rfl (b := false) E5.out) ?_)
  clear E5
  have E6 : Hid _ := (HK.out 6 _ rfl)
  go_upto_region 39 with (refine wpList_value rfl (exec_eqS rfl rfl rfl (b := false) E6.out) ?_)
  rw [← hw1, ← hg0]
  clear hw1 hg0
  go_wp2_with fail
  refine (Calls.mono HFn.out) ?_
  rintro e w2 ⟨rfl, t2, -⟩
  clear HFn
  have F : Hid _ := HT.out w2 t2
  clear HT t2
  cases b1
  · cases b2
    · go_wp2_with (first | (refine wpList_value rfl (exec_neS rfl rfl rfl (b := false) D1.out) ?_) | (refine wpList_value rfl (exec_neS rfl rfl rfl (b := _) H1.out) ?_) | (refine wpList_value rfl (exec_neS rfl rfl rfl (b := _) H2.out) ?_) | (refine wpList_value rfl (exec_eqS rfl rfl rfl (b := _) H1.out) ?_))
      refine bodyPost_ret (v := .tuple #[.string ⟨#[]⟩, .bool false, .bool false]) (by first | rfl | simp [results, Tryd.results39, go_sem]) rfl ?_
      exact OneP.mk (HO.out.2 rfl) (F.out.1) (fun h => by cases h)
    · go_wp2_with (first | (refine wpList_value rfl (exec_neS rfl rfl rfl (b := false) D1.out) ?_) | (refine wpList_value rfl (exec_neS rfl rfl rfl (b := _) H1.out) ?_) | (refine wpList_value rfl (exec_neS rfl rfl rfl (b := _) H2.out) ?_) | (refine wpList_value rfl (exec_eqS rfl rfl rfl (b := _) H1.out) ?_))
      refine (Calls.mono (HFl.out _ F.out.2)) ?_
      rintro e w3 ⟨rfl, t3, B3⟩
      have F3 : Hid _ := And.intro (F.out.1.trans (t3.mono (fun k h => .inl h))) B3
      clear t3 B3 F HFl
      go_wp2
      refine bodyPost_ret (v := .tuple #[.string (flM 10 p false).2, .bool true, .bool true]) (by first | rfl | simp [results, Tryd.results39, go_sem]) rfl ?_
      exact OneP.mk (HO.out.1 (by rfl)) (F3.out.1) (fun _ => F3.out.2)
  · go_wp2_with (first | (refine wpList_value rfl (exec_neS rfl rfl rfl (b := false) D1.out) ?_) | (refine wpList_value rfl (exec_neS rfl rfl rfl (b := _) H1.out) ?_) | (refine wpList_value rfl (exec_neS rfl rfl rfl (b := _) H2.out) ?_) | (refine wpList_value rfl (exec_eqS rfl rfl rfl (b := _) H1.out) ?_))
    refine (Calls.mono (HFl.out _ F.out.2)) ?_
    rintro e w3 ⟨rfl, t3, B3⟩
    have F3 : Hid _ := And.intro (F.out.1.trans (t3.mono (fun k h => .inl h))) B3
    clear t3 B3 F HFl
    go_wp2
    refine bodyPost_ret (v := .tuple #[.string (flM 10 p true).2, .bool true, .bool true]) (by first | rfl | simp [results, Tryd.results39, go_sem]) rfl ?_
    exact OneP.mk (HO.out.1 rfl) (F3.out.1) (fun _ => F3.out.2)
set_option maxHeartbeats 8000000 in
theorem rOne_11 (g : Nat) (p : Pm18) (k v : ByteArray) (w : World) (hj : keyIx k = 11) (hB : Blk w g 48 p.c) (hs : v.size ≤ 4194304) : Calls Tryd.prog 39 #[.pointer (some ⟨g, 0, none⟩), .string k, .string v] w fun e w' => OneP g p k v w e w' := by
  have hk : KF k 11 := by have h := (kf_any k).1; rw [hj] at h; exact h
  have HK : Hid _ := hk
  have HBd : Hid (∀ W, _) := fun W => rBd_11 k W hk
  have N1 := Blk.new' w 48 [.bool false, .bool false, .int .i64 0, .int .i64 0, .int .i64 0, .int .i64 0, .bool false, .bool false, .bool false, .string ⟨#[]⟩, .string ⟨#[]⟩]
  have bn1 : Below w.heap.size w (w.alloc (.cells #[.bool false, .bool false, .int .i64 0, .int .i64 0, .int .i64 0, .int .i64 0, .bool false, .bool false, .bool false, .string ⟨#[]⟩, .string ⟨#[]⟩] 48)) := (Below.refl _ _).alloc (Nat.le_refl _) _
  obtain ⟨w1, hw1⟩ : ∃ w1, w1 = w.alloc (.cells #[.bool false, .bool false, .int .i64 0, .int .i64 0, .int .i64 0, .int .i64 0, .bool false, .bool false, .bool false, .string ⟨#[]⟩, .string ⟨#[]⟩] 48) := ⟨_, rfl⟩
  rw [← hw1] at N1 bn1
  obtain ⟨g0, hg0⟩ : ∃ y, y = w.heap.size := ⟨_, rfl⟩
  rw [← hg0] at N1
  have hne : g ≠ g0 := by have := hB.lt; omega
  have HFn : Hid _ := rFl_11 g0 (⟨false, false, 0, 0, 0, 0, false, false, false, ⟨#[]⟩, ⟨#[]⟩⟩ : Pm18) k true w1 hk N1
  have HT : Hid (∀ W, Turned (fun k => k = g0) w1 W → Turned (fun k => k = g) w W ∧ Blk W g 48 p.c) := (fun W t => ⟨((turned_below bn1).mono (fun k h => h.elim)).trans (t.mono (fun k e => .inr (by rw [e, hg0]; exact Nat.le_refl _))), (hB.laterB bn1).turned t hne⟩ : ∀ W, Turned (fun k => k = g0) w1 W → Turned (fun k => k = g) w W ∧ Blk W g 48 p.c)
  have D1 : Hid ((noS.toList == (⟨#[]⟩ : ByteArray).toList) = false) := (by rw [beq_toList]; decide : (noS.toList == (⟨#[]⟩ : ByteArray).toList) = false)
  obtain ⟨b1, h1⟩ : ∃ b, (v.toList == yesS.toList) = b := ⟨_, rfl⟩
  obtain ⟨b2, h2⟩ : ∃ b, (v.toList == noS.toList) = b := ⟨_, rfl⟩
  have ht : takesM (rlI 11) v = (b1 || b2) := by rw [← h1, ← h2]; rfl
  have hag : ∀ p, agM 11 (rlI 11).an p v = ((flM 11 p b1).1, (flM 11 p b1).2, true) := fun p => by rw [← h1]; rfl
  have HO : Hid _ := And.intro (fun (h : b1 || b2) => OneR.yes (p := p) (v := v) hj (by decide) (ht.trans h) (hag p)) (fun (h : (b1 || b2) = false) => OneR.no (p := p) (p' := p) (a := ⟨#[]⟩) (t := false) (v := v) hj (by decide) (ht.trans h))
  have H1 : Hid _ := h1
  have H2 : Hid _ := h2
  have l2 : (v.toList == [78, 111]) = b2 := by rw [← h2, show noS.toList = [78, 111] by simp [ByteArray.toList_eq]]
  have HFl : Hid (∀ W, Blk W g 48 p.c → _) := fun W hW => rFl_11 g p k b1 W hk hW
  clear h1 h2 ht hag
  clear hj hk hB bn1 N1 hne
  go_enter Tryd.func39, Tryd.ntmps39
  go_wp2_with fail
  refine (Calls.mono (HBd.out _)) ?_
  rintro e _ ⟨rfl, rfl⟩
  clear HBd
  go_upto_region 9 with fail
  have E0 : Hid _ := (HK.out 0 _ rfl)
  go_upto_region 12 with (refine wpList_value rfl (exec_eqS rfl rfl rfl (b := false) E0.out) ?_)
  clear E0
  have E1 : Hid _ := (HK.out 1 _ rfl)
  go_upto_region 15 with (refine wpList_value rfl (exec_eqS rfl rfl rfl (b := false) E1.out) ?_)
  clear E1
  have E2 : Hid _ := (HK.out 2 _ rfl)
  go_upto_region 18 with (refine wpList_value rfl (exec_eqS rfl rfl rfl (b := false) E2.out) ?_)
  clear E2
  have E3 : Hid _ := (HK.out 3 _ rfl)
  go_upto_region 20 with (refine wpList_value rfl (exec_eqS rfl rfl rfl (b := false) E3.out) ?_)
  clear E3
  have E4 : Hid _ := (HK.out 4 _ rfl)
  go_upto_region 28 with (refine wpList_value rfl (exec_eqS rfl rfl rfl (b := false) E4.out) ?_)
  clear E4
  have E5 : Hid _ := (HK.out 5 _ rfl)
  go_upto_region 29 with (refine wpList_value rfl (exec_eqS rfl rfl rfl (b := false) E5.out) ?_)
  clear E5
  have E6 : Hid _ := (HK.out 6 _ rfl)
  go_upto_region 39 with (refine wpList_value rfl (exec_eqS rfl rfl rfl (b := false) E6.out) ?_)
  rw [← hw1, ← hg0]
  clear hw1 hg0
  go_wp2_with fail
  refine (Calls.mono HFn.out) ?_
  rintro e w2 ⟨rfl, t2, -⟩
  clear HFn
  have F : Hid _ := HT.out w2 t2
  clear HT t2
  cases b1
  · cases b2
    · go_wp2_with (first | (refine wpList_value rfl (exec_neS rfl rfl rfl (b := false) D1.out) ?_) | (refine wpList_value rfl (exec_neS rfl rfl rfl (b := _) H1.out) ?_) | (refine wpList_value rfl (exec_neS rfl rfl rfl (b := _) H2.out) ?_) | (refine wpList_value rfl (exec_eqS rfl rfl rfl (b := _) H1.out) ?_))
      refine bodyPost_ret (v := .tuple #[.string ⟨#[]⟩, .bool false, .bool false]) (by first | rfl | simp [results, Tryd.results39, go_sem]) rfl ?_
      exact OneP.mk (HO.out.2 rfl) (F.out.1) (fun h => by cases h)
    · go_wp2_with (first | (refine wpList_value rfl (exec_neS rfl rfl rfl (b := false) D1.out) ?_) | (refine wpList_value rfl (exec_neS rfl rfl rfl (b := _) H1.out) ?_) | (refine wpList_value rfl (exec_neS rfl rfl rfl (b := _) H2.out) ?_) | (refine wpList_value rfl (exec_eqS rfl rfl rfl (b := _) H1.out) ?_))
      refine (Calls.mono (HFl.out _ F.out.2)) ?_
      rintro e w3 ⟨rfl, t3, B3⟩
      have F3 : Hid _ := And.intro (F.out.1.trans (t3.mono (fun k h => .inl h))) B3
      clear t3 B3 F HFl
      go_wp2
      refine bodyPost_ret (v := .tuple #[.string (flM 11 p false).2, .bool true, .bool true]) (by first | rfl | simp [results, Tryd.results39, go_sem]) rfl ?_
      exact OneP.mk (HO.out.1 (by rfl)) (F3.out.1) (fun _ => F3.out.2)
  · go_wp2_with (first | (refine wpList_value rfl (exec_neS rfl rfl rfl (b := false) D1.out) ?_) | (refine wpList_value rfl (exec_neS rfl rfl rfl (b := _) H1.out) ?_) | (refine wpList_value rfl (exec_neS rfl rfl rfl (b := _) H2.out) ?_) | (refine wpList_value rfl (exec_eqS rfl rfl rfl (b := _) H1.out) ?_))
    refine (Calls.mono (HFl.out _ F.out.2)) ?_
    rintro e w3 ⟨rfl, t3, B3⟩
    have F3 : Hid _ := And.intro (F.out.1.trans (t3.mono (fun k h => .inl h))) B3
    clear t3 B3 F HFl
    go_wp2
    refine bodyPost_ret (v := .tuple #[.string (flM 11 p true).2, .bool true, .bool true]) (by first | rfl | simp [results, Tryd.results39, go_sem]) rfl ?_
    exact OneP.mk (HO.out.1 rfl) (F3.out.1) (fun _ => F3.out.2)
set_option maxHeartbeats 8000000 in
theorem rOne_12 (g : Nat) (p : Pm18) (k v : ByteArray) (w : World) (hj : keyIx k = 12) (hB : Blk w g 48 p.c) (hs : v.size ≤ 4194304) : Calls Tryd.prog 39 #[.pointer (some ⟨g, 0, none⟩), .string k, .string v] w fun e w' => OneP g p k v w e w' := by
  have hk : KF k 12 := by have h := (kf_any k).1; rw [hj] at h; exact h
  have HK : Hid _ := hk
  have HBd : Hid (∀ W, _) := fun W => rBd_12 k W hk
  have HN0 := rNumber_any v w (by omega)
  obtain ⟨n, hn⟩ : ∃ n, n = (nuR v.data.toList).1 := ⟨_, rfl⟩
  obtain ⟨E, hE⟩ : ∃ E, E = (nuR v.data.toList).2 := ⟨_, rfl⟩
  rw [← hn, ← hE] at HN0
  have ht : takesM (rlI 12) v = (E == 0 && (decide ((1 : Int) ≤ n) && decide (n ≤ 65535))) := by rw [hn, hE]; rfl
  have hag : agM 12 (rlI 12).an p v = nmM 12 p n := by rw [hn]; rfl
  have HN : Hid _ := HN0
  clear HN0 hn hE
  by_cases hok : E = 0 ∧ (1 : Int) ≤ n ∧ n ≤ 65535
  · obtain ⟨rfl, q1, q2⟩ := hok
    have q3 : ¬ (n < 1) := by omega
    have q4 : ¬ ((65535 : Int) < n) := by omega
    have HO : Hid _ := OneR.yes (p := p) (v := v) hj (by decide) (by rw [ht, decide_eq_true q1, decide_eq_true q2]; rfl) hag
    have HM : Hid _ := rNm_12 g p k n w hk hB
    clear hj ht hag hB hk q1 q2
    go_enter Tryd.func39, Tryd.ntmps39
    go_wp2_with fail
    refine (Calls.mono (HBd.out _)) ?_
    rintro e _ ⟨rfl, rfl⟩
    clear HBd
    go_wp2_with fail
    refine (Calls.mono HN.out) ?_
    rintro e _ ⟨rfl, rfl⟩
    clear HN
    go_wp2_with fail
    refine (Calls.mono HM.out) ?_
    rintro e w5 ⟨rfl, t5, B5⟩
    have F : Hid _ := And.intro t5 B5
    clear HM t5 B5
    go_wp2
    refine bodyPost_ret (v := .tuple #[.string (nmM 12 p n).2.1, .bool (nmM 12 p n).2.2, .bool true]) (by first | rfl | simp [results, Tryd.results39, go_sem]) rfl ?_
    exact OneP.mk (HO.out) (F.out.1) (fun _ => F.out.2)
  · by_cases hE : E = 0
    · subst hE
      by_cases q1 : n < 1
      · have HO : Hid _ := OneR.no (p := p) (p' := p) (a := ⟨#[]⟩) (t := false) (v := v) hj (by decide) (by rw [ht]; rw [decide_eq_false (by omega : ¬ (1 : Int) ≤ n)]; simp)
        have F : Hid _ := Turned.refl18 (fun k => k = g) w
        clear hj ht hag hB hk hok
        go_enter Tryd.func39, Tryd.ntmps39
        go_wp2_with fail
        refine (Calls.mono (HBd.out _)) ?_
        rintro e _ ⟨rfl, rfl⟩
        clear HBd
        go_wp2_with fail
        refine (Calls.mono HN.out) ?_
        rintro e _ ⟨rfl, rfl⟩
        clear HN
        go_wp2
        refine bodyPost_ret (v := .tuple #[.string ⟨#[]⟩, .bool false, .bool false]) (by first | rfl | simp [results, Tryd.results39, go_sem]) rfl ?_
        exact OneP.mk (HO.out) (F.out) (fun h => by cases h)
      · have q2 : (65535 : Int) < n := by omega
        have HO : Hid _ := OneR.no (p := p) (p' := p) (a := ⟨#[]⟩) (t := false) (v := v) hj (by decide) (by rw [ht]; rw [decide_eq_false (by omega : ¬ n ≤ (65535 : Int))]; simp)
        have F : Hid _ := Turned.refl18 (fun k => k = g) w
        clear hj ht hag hB hk hok
        go_enter Tryd.func39, Tryd.ntmps39
        go_wp2_with fail
        refine (Calls.mono (HBd.out _)) ?_
        rintro e _ ⟨rfl, rfl⟩
        clear HBd
        go_wp2_with fail
        refine (Calls.mono HN.out) ?_
        rintro e _ ⟨rfl, rfl⟩
        clear HN
        go_wp2
        refine bodyPost_ret (v := .tuple #[.string ⟨#[]⟩, .bool false, .bool false]) (by first | rfl | simp [results, Tryd.results39, go_sem]) rfl ?_
        exact OneP.mk (HO.out) (F.out) (fun h => by cases h)
    · have dE : (E == 0) = false := by simpa using hE
      have dN : (E != 0) = true := by simpa using hE
      have HO : Hid _ := OneR.no (p := p) (p' := p) (a := ⟨#[]⟩) (t := false) (v := v) hj (by decide) (by rw [ht]; rw [dE]; rfl)
      have F : Hid _ := Turned.refl18 (fun k => k = g) w
      clear hj ht hag hB hk hok
      go_enter Tryd.func39, Tryd.ntmps39
      go_wp2_with fail
      refine (Calls.mono (HBd.out _)) ?_
      rintro e _ ⟨rfl, rfl⟩
      clear HBd
      go_wp2_with fail
      refine (Calls.mono HN.out) ?_
      rintro e _ ⟨rfl, rfl⟩
      clear HN
      go_wp2
      refine bodyPost_ret (v := .tuple #[.string ⟨#[]⟩, .bool false, .bool false]) (by first | rfl | simp [results, Tryd.results39, go_sem]) rfl ?_
      exact OneP.mk (HO.out) (F.out) (fun h => by cases h)
set_option maxHeartbeats 8000000 in
theorem rOne_13 (g : Nat) (p : Pm18) (k v : ByteArray) (w : World) (hj : keyIx k = 13) (hB : Blk w g 48 p.c) (hs : v.size ≤ 4194304) : Calls Tryd.prog 39 #[.pointer (some ⟨g, 0, none⟩), .string k, .string v] w fun e w' => OneP g p k v w e w' := by
  have hk : KF k 13 := by have h := (kf_any k).1; rw [hj] at h; exact h
  have HK : Hid _ := hk
  have HBd : Hid (∀ W, _) := fun W => rBd_13 k W hk
  have HN0 := rNumber_any v w (by omega)
  obtain ⟨n, hn⟩ : ∃ n, n = (nuR v.data.toList).1 := ⟨_, rfl⟩
  obtain ⟨E, hE⟩ : ∃ E, E = (nuR v.data.toList).2 := ⟨_, rfl⟩
  rw [← hn, ← hE] at HN0
  have ht : takesM (rlI 13) v = (E == 0 && (decide ((1 : Int) ≤ n) && decide (n ≤ 65535))) := by rw [hn, hE]; rfl
  have hag : agM 13 (rlI 13).an p v = nmM 13 p n := by rw [hn]; rfl
  have HN : Hid _ := HN0
  clear HN0 hn hE
  by_cases hok : E = 0 ∧ (1 : Int) ≤ n ∧ n ≤ 65535
  · obtain ⟨rfl, q1, q2⟩ := hok
    have q3 : ¬ (n < 1) := by omega
    have q4 : ¬ ((65535 : Int) < n) := by omega
    have HO : Hid _ := OneR.yes (p := p) (v := v) hj (by decide) (by rw [ht, decide_eq_true q1, decide_eq_true q2]; rfl) hag
    have HM : Hid _ := rNm_13 g p k n w hk hB
    clear hj ht hag hB hk q1 q2
    go_enter Tryd.func39, Tryd.ntmps39
    go_wp2_with fail
    refine (Calls.mono (HBd.out _)) ?_
    rintro e _ ⟨rfl, rfl⟩
    clear HBd
    go_wp2_with fail
    refine (Calls.mono HN.out) ?_
    rintro e _ ⟨rfl, rfl⟩
    clear HN
    go_wp2_with fail
    refine (Calls.mono HM.out) ?_
    rintro e w5 ⟨rfl, t5, B5⟩
    have F : Hid _ := And.intro t5 B5
    clear HM t5 B5
    go_wp2
    refine bodyPost_ret (v := .tuple #[.string (nmM 13 p n).2.1, .bool (nmM 13 p n).2.2, .bool true]) (by first | rfl | simp [results, Tryd.results39, go_sem]) rfl ?_
    exact OneP.mk (HO.out) (F.out.1) (fun _ => F.out.2)
  · by_cases hE : E = 0
    · subst hE
      by_cases q1 : n < 1
      · have HO : Hid _ := OneR.no (p := p) (p' := p) (a := ⟨#[]⟩) (t := false) (v := v) hj (by decide) (by rw [ht]; rw [decide_eq_false (by omega : ¬ (1 : Int) ≤ n)]; simp)
        have F : Hid _ := Turned.refl18 (fun k => k = g) w
        clear hj ht hag hB hk hok
        go_enter Tryd.func39, Tryd.ntmps39
        go_wp2_with fail
        refine (Calls.mono (HBd.out _)) ?_
        rintro e _ ⟨rfl, rfl⟩
        clear HBd
        go_wp2_with fail
        refine (Calls.mono HN.out) ?_
        rintro e _ ⟨rfl, rfl⟩
        clear HN
        go_wp2
        refine bodyPost_ret (v := .tuple #[.string ⟨#[]⟩, .bool false, .bool false]) (by first | rfl | simp [results, Tryd.results39, go_sem]) rfl ?_
        exact OneP.mk (HO.out) (F.out) (fun h => by cases h)
      · have q2 : (65535 : Int) < n := by omega
        have HO : Hid _ := OneR.no (p := p) (p' := p) (a := ⟨#[]⟩) (t := false) (v := v) hj (by decide) (by rw [ht]; rw [decide_eq_false (by omega : ¬ n ≤ (65535 : Int))]; simp)
        have F : Hid _ := Turned.refl18 (fun k => k = g) w
        clear hj ht hag hB hk hok
        go_enter Tryd.func39, Tryd.ntmps39
        go_wp2_with fail
        refine (Calls.mono (HBd.out _)) ?_
        rintro e _ ⟨rfl, rfl⟩
        clear HBd
        go_wp2_with fail
        refine (Calls.mono HN.out) ?_
        rintro e _ ⟨rfl, rfl⟩
        clear HN
        go_wp2
        refine bodyPost_ret (v := .tuple #[.string ⟨#[]⟩, .bool false, .bool false]) (by first | rfl | simp [results, Tryd.results39, go_sem]) rfl ?_
        exact OneP.mk (HO.out) (F.out) (fun h => by cases h)
    · have dE : (E == 0) = false := by simpa using hE
      have dN : (E != 0) = true := by simpa using hE
      have HO : Hid _ := OneR.no (p := p) (p' := p) (a := ⟨#[]⟩) (t := false) (v := v) hj (by decide) (by rw [ht]; rw [dE]; rfl)
      have F : Hid _ := Turned.refl18 (fun k => k = g) w
      clear hj ht hag hB hk hok
      go_enter Tryd.func39, Tryd.ntmps39
      go_wp2_with fail
      refine (Calls.mono (HBd.out _)) ?_
      rintro e _ ⟨rfl, rfl⟩
      clear HBd
      go_wp2_with fail
      refine (Calls.mono HN.out) ?_
      rintro e _ ⟨rfl, rfl⟩
      clear HN
      go_wp2
      refine bodyPost_ret (v := .tuple #[.string ⟨#[]⟩, .bool false, .bool false]) (by first | rfl | simp [results, Tryd.results39, go_sem]) rfl ?_
      exact OneP.mk (HO.out) (F.out) (fun h => by cases h)
set_option maxHeartbeats 8000000 in
theorem rOne_14 (g : Nat) (p : Pm18) (k v : ByteArray) (w : World) (hj : keyIx k = 14) (hB : Blk w g 48 p.c) (hs : v.size ≤ 4194304) : Calls Tryd.prog 39 #[.pointer (some ⟨g, 0, none⟩), .string k, .string v] w fun e w' => OneP g p k v w e w' := by
  have hk : KF k 14 := by have h := (kf_any k).1; rw [hj] at h; exact h
  have HK : Hid _ := hk
  have HBd : Hid (∀ W, _) := fun W => rBd_14 k W hk
  have HN0 := rNumber_any v w (by omega)
  obtain ⟨n, hn⟩ : ∃ n, n = (nuR v.data.toList).1 := ⟨_, rfl⟩
  obtain ⟨E, hE⟩ : ∃ E, E = (nuR v.data.toList).2 := ⟨_, rfl⟩
  rw [← hn, ← hE] at HN0
  have ht : takesM (rlI 14) v = (E == 0 && (decide ((0 : Int) ≤ n) && decide (n ≤ 2))) := by rw [hn, hE]; rfl
  have hag : agM 14 (rlI 14).an p v = nmM 14 p n := by rw [hn]; rfl
  have HN : Hid _ := HN0
  clear HN0 hn hE
  by_cases hok : E = 0 ∧ (0 : Int) ≤ n ∧ n ≤ 2
  · obtain ⟨rfl, q1, q2⟩ := hok
    have q3 : ¬ (n < 0) := by omega
    have q4 : ¬ ((2 : Int) < n) := by omega
    have HO : Hid _ := OneR.yes (p := p) (v := v) hj (by decide) (by rw [ht, decide_eq_true q1, decide_eq_true q2]; rfl) hag
    have HM : Hid _ := rNm_14 g p k n w hk hB
    clear hj ht hag hB hk q1 q2
    go_enter Tryd.func39, Tryd.ntmps39
    go_wp2_with fail
    refine (Calls.mono (HBd.out _)) ?_
    rintro e _ ⟨rfl, rfl⟩
    clear HBd
    go_wp2_with fail
    refine (Calls.mono HN.out) ?_
    rintro e _ ⟨rfl, rfl⟩
    clear HN
    go_wp2_with fail
    refine (Calls.mono HM.out) ?_
    rintro e w5 ⟨rfl, t5, B5⟩
    have F : Hid _ := And.intro t5 B5
    clear HM t5 B5
    go_wp2
    refine bodyPost_ret (v := .tuple #[.string (nmM 14 p n).2.1, .bool (nmM 14 p n).2.2, .bool true]) (by first | rfl | simp [results, Tryd.results39, go_sem]) rfl ?_
    exact OneP.mk (HO.out) (F.out.1) (fun _ => F.out.2)
  · by_cases hE : E = 0
    · subst hE
      by_cases q1 : n < 0
      · have HO : Hid _ := OneR.no (p := p) (p' := p) (a := ⟨#[]⟩) (t := false) (v := v) hj (by decide) (by rw [ht]; rw [decide_eq_false (by omega : ¬ (0 : Int) ≤ n)]; simp)
        have F : Hid _ := Turned.refl18 (fun k => k = g) w
        clear hj ht hag hB hk hok
        go_enter Tryd.func39, Tryd.ntmps39
        go_wp2_with fail
        refine (Calls.mono (HBd.out _)) ?_
        rintro e _ ⟨rfl, rfl⟩
        clear HBd
        go_wp2_with fail
        refine (Calls.mono HN.out) ?_
        rintro e _ ⟨rfl, rfl⟩
        clear HN
        go_wp2
        refine bodyPost_ret (v := .tuple #[.string ⟨#[]⟩, .bool false, .bool false]) (by first | rfl | simp [results, Tryd.results39, go_sem]) rfl ?_
        exact OneP.mk (HO.out) (F.out) (fun h => by cases h)
      · have q2 : (2 : Int) < n := by omega
        have HO : Hid _ := OneR.no (p := p) (p' := p) (a := ⟨#[]⟩) (t := false) (v := v) hj (by decide) (by rw [ht]; rw [decide_eq_false (by omega : ¬ n ≤ (2 : Int))]; simp)
        have F : Hid _ := Turned.refl18 (fun k => k = g) w
        clear hj ht hag hB hk hok
        go_enter Tryd.func39, Tryd.ntmps39
        go_wp2_with fail
        refine (Calls.mono (HBd.out _)) ?_
        rintro e _ ⟨rfl, rfl⟩
        clear HBd
        go_wp2_with fail
        refine (Calls.mono HN.out) ?_
        rintro e _ ⟨rfl, rfl⟩
        clear HN
        go_wp2
        refine bodyPost_ret (v := .tuple #[.string ⟨#[]⟩, .bool false, .bool false]) (by first | rfl | simp [results, Tryd.results39, go_sem]) rfl ?_
        exact OneP.mk (HO.out) (F.out) (fun h => by cases h)
    · have dE : (E == 0) = false := by simpa using hE
      have dN : (E != 0) = true := by simpa using hE
      have HO : Hid _ := OneR.no (p := p) (p' := p) (a := ⟨#[]⟩) (t := false) (v := v) hj (by decide) (by rw [ht]; rw [dE]; rfl)
      have F : Hid _ := Turned.refl18 (fun k => k = g) w
      clear hj ht hag hB hk hok
      go_enter Tryd.func39, Tryd.ntmps39
      go_wp2_with fail
      refine (Calls.mono (HBd.out _)) ?_
      rintro e _ ⟨rfl, rfl⟩
      clear HBd
      go_wp2_with fail
      refine (Calls.mono HN.out) ?_
      rintro e _ ⟨rfl, rfl⟩
      clear HN
      go_wp2
      refine bodyPost_ret (v := .tuple #[.string ⟨#[]⟩, .bool false, .bool false]) (by first | rfl | simp [results, Tryd.results39, go_sem]) rfl ?_
      exact OneP.mk (HO.out) (F.out) (fun h => by cases h)
set_option maxHeartbeats 8000000 in
theorem rOne_15 (g : Nat) (p : Pm18) (k v : ByteArray) (w : World) (hj : keyIx k = 15) (hB : Blk w g 48 p.c) (hs : v.size ≤ 4194304) : Calls Tryd.prog 39 #[.pointer (some ⟨g, 0, none⟩), .string k, .string v] w fun e w' => OneP g p k v w e w' := by
  have hk : KF k 15 := by have h := (kf_any k).1; rw [hj] at h; exact h
  have HK : Hid _ := hk
  have HBd : Hid (∀ W, _) := fun W => rBd_15 k W hk
  have HN0 := rNumber_any v w (by omega)
  obtain ⟨n, hn⟩ : ∃ n, n = (nuR v.data.toList).1 := ⟨_, rfl⟩
  obtain ⟨E, hE⟩ : ∃ E, E = (nuR v.data.toList).2 := ⟨_, rfl⟩
  rw [← hn, ← hE] at HN0
  have ht : takesM (rlI 15) v = (E == 0 && (decide ((0 : Int) ≤ n) && decide (n ≤ 3600))) := by rw [hn, hE]; rfl
  have hag : agM 15 (rlI 15).an p v = nmM 15 p n := by rw [hn]; rfl
  have HN : Hid _ := HN0
  clear HN0 hn hE
  by_cases hok : E = 0 ∧ (0 : Int) ≤ n ∧ n ≤ 3600
  · obtain ⟨rfl, q1, q2⟩ := hok
    have q3 : ¬ (n < 0) := by omega
    have q4 : ¬ ((3600 : Int) < n) := by omega
    have HO : Hid _ := OneR.yes (p := p) (v := v) hj (by decide) (by rw [ht, decide_eq_true q1, decide_eq_true q2]; rfl) hag
    have HM : Hid _ := rNm_15 g p k n w hk hB
    clear hj ht hag hB hk q1 q2
    go_enter Tryd.func39, Tryd.ntmps39
    go_wp2_with fail
    refine (Calls.mono (HBd.out _)) ?_
    rintro e _ ⟨rfl, rfl⟩
    clear HBd
    go_wp2_with fail
    refine (Calls.mono HN.out) ?_
    rintro e _ ⟨rfl, rfl⟩
    clear HN
    go_wp2_with fail
    refine (Calls.mono HM.out) ?_
    rintro e w5 ⟨rfl, t5, B5⟩
    have F : Hid _ := And.intro t5 B5
    clear HM t5 B5
    go_wp2
    refine bodyPost_ret (v := .tuple #[.string (nmM 15 p n).2.1, .bool (nmM 15 p n).2.2, .bool true]) (by first | rfl | simp [results, Tryd.results39, go_sem]) rfl ?_
    exact OneP.mk (HO.out) (F.out.1) (fun _ => F.out.2)
  · by_cases hE : E = 0
    · subst hE
      by_cases q1 : n < 0
      · have HO : Hid _ := OneR.no (p := p) (p' := p) (a := ⟨#[]⟩) (t := false) (v := v) hj (by decide) (by rw [ht]; rw [decide_eq_false (by omega : ¬ (0 : Int) ≤ n)]; simp)
        have F : Hid _ := Turned.refl18 (fun k => k = g) w
        clear hj ht hag hB hk hok
        go_enter Tryd.func39, Tryd.ntmps39
        go_wp2_with fail
        refine (Calls.mono (HBd.out _)) ?_
        rintro e _ ⟨rfl, rfl⟩
        clear HBd
        go_wp2_with fail
        refine (Calls.mono HN.out) ?_
        rintro e _ ⟨rfl, rfl⟩
        clear HN
        go_wp2
        refine bodyPost_ret (v := .tuple #[.string ⟨#[]⟩, .bool false, .bool false]) (by first | rfl | simp [results, Tryd.results39, go_sem]) rfl ?_
        exact OneP.mk (HO.out) (F.out) (fun h => by cases h)
      · have q2 : (3600 : Int) < n := by omega
        have HO : Hid _ := OneR.no (p := p) (p' := p) (a := ⟨#[]⟩) (t := false) (v := v) hj (by decide) (by rw [ht]; rw [decide_eq_false (by omega : ¬ n ≤ (3600 : Int))]; simp)
        have F : Hid _ := Turned.refl18 (fun k => k = g) w
        clear hj ht hag hB hk hok
        go_enter Tryd.func39, Tryd.ntmps39
        go_wp2_with fail
        refine (Calls.mono (HBd.out _)) ?_
        rintro e _ ⟨rfl, rfl⟩
        clear HBd
        go_wp2_with fail
        refine (Calls.mono HN.out) ?_
        rintro e _ ⟨rfl, rfl⟩
        clear HN
        go_wp2
        refine bodyPost_ret (v := .tuple #[.string ⟨#[]⟩, .bool false, .bool false]) (by first | rfl | simp [results, Tryd.results39, go_sem]) rfl ?_
        exact OneP.mk (HO.out) (F.out) (fun h => by cases h)
    · have dE : (E == 0) = false := by simpa using hE
      have dN : (E != 0) = true := by simpa using hE
      have HO : Hid _ := OneR.no (p := p) (p' := p) (a := ⟨#[]⟩) (t := false) (v := v) hj (by decide) (by rw [ht]; rw [dE]; rfl)
      have F : Hid _ := Turned.refl18 (fun k => k = g) w
      clear hj ht hag hB hk hok
      go_enter Tryd.func39, Tryd.ntmps39
      go_wp2_with fail
      refine (Calls.mono (HBd.out _)) ?_
      rintro e _ ⟨rfl, rfl⟩
      clear HBd
      go_wp2_with fail
      refine (Calls.mono HN.out) ?_
      rintro e _ ⟨rfl, rfl⟩
      clear HN
      go_wp2
      refine bodyPost_ret (v := .tuple #[.string ⟨#[]⟩, .bool false, .bool false]) (by first | rfl | simp [results, Tryd.results39, go_sem]) rfl ?_
      exact OneP.mk (HO.out) (F.out) (fun h => by cases h)
set_option maxHeartbeats 8000000 in
theorem rOne_16 (g : Nat) (p : Pm18) (k v : ByteArray) (w : World) (hj : keyIx k = 16) (hB : Blk w g 48 p.c) (hs : v.size ≤ 4194304) : Calls Tryd.prog 39 #[.pointer (some ⟨g, 0, none⟩), .string k, .string v] w fun e w' => OneP g p k v w e w' := by
  have hk : KF k 16 := by have h := (kf_any k).1; rw [hj] at h; exact h
  have HK : Hid _ := hk
  have HBd : Hid (∀ W, _) := fun W => rBd_16 k W hk
  have HN0 := rNumber_any v w (by omega)
  obtain ⟨n, hn⟩ : ∃ n, n = (nuR v.data.toList).1 := ⟨_, rfl⟩
  obtain ⟨E, hE⟩ : ∃ E, E = (nuR v.data.toList).2 := ⟨_, rfl⟩
  rw [← hn, ← hE] at HN0
  have ht : takesM (rlI 16) v = (E == 0 && (decide ((0 : Int) ≤ n) && decide (n ≤ 3600))) := by rw [hn, hE]; rfl
  have hag : agM 16 (rlI 16).an p v = nmM 16 p n := by rw [hn]; rfl
  have HN : Hid _ := HN0
  clear HN0 hn hE
  by_cases hok : E = 0 ∧ (0 : Int) ≤ n ∧ n ≤ 3600
  · obtain ⟨rfl, q1, q2⟩ := hok
    have q3 : ¬ (n < 0) := by omega
    have q4 : ¬ ((3600 : Int) < n) := by omega
    have HO : Hid _ := OneR.yes (p := p) (v := v) hj (by decide) (by rw [ht, decide_eq_true q1, decide_eq_true q2]; rfl) hag
    have HM : Hid _ := rNm_16 g p k n w hk hB
    clear hj ht hag hB hk q1 q2
    go_enter Tryd.func39, Tryd.ntmps39
    go_wp2_with fail
    refine (Calls.mono (HBd.out _)) ?_
    rintro e _ ⟨rfl, rfl⟩
    clear HBd
    go_wp2_with fail
    refine (Calls.mono HN.out) ?_
    rintro e _ ⟨rfl, rfl⟩
    clear HN
    go_wp2_with fail
    refine (Calls.mono HM.out) ?_
    rintro e w5 ⟨rfl, t5, B5⟩
    have F : Hid _ := And.intro t5 B5
    clear HM t5 B5
    go_wp2
    refine bodyPost_ret (v := .tuple #[.string (nmM 16 p n).2.1, .bool (nmM 16 p n).2.2, .bool true]) (by first | rfl | simp [results, Tryd.results39, go_sem]) rfl ?_
    exact OneP.mk (HO.out) (F.out.1) (fun _ => F.out.2)
  · by_cases hE : E = 0
    · subst hE
      by_cases q1 : n < 0
      · have HO : Hid _ := OneR.no (p := p) (p' := p) (a := ⟨#[]⟩) (t := false) (v := v) hj (by decide) (by rw [ht]; rw [decide_eq_false (by omega : ¬ (0 : Int) ≤ n)]; simp)
        have F : Hid _ := Turned.refl18 (fun k => k = g) w
        clear hj ht hag hB hk hok
        go_enter Tryd.func39, Tryd.ntmps39
        go_wp2_with fail
        refine (Calls.mono (HBd.out _)) ?_
        rintro e _ ⟨rfl, rfl⟩
        clear HBd
        go_wp2_with fail
        refine (Calls.mono HN.out) ?_
        rintro e _ ⟨rfl, rfl⟩
        clear HN
        go_wp2
        refine bodyPost_ret (v := .tuple #[.string ⟨#[]⟩, .bool false, .bool false]) (by first | rfl | simp [results, Tryd.results39, go_sem]) rfl ?_
        exact OneP.mk (HO.out) (F.out) (fun h => by cases h)
      · have q2 : (3600 : Int) < n := by omega
        have HO : Hid _ := OneR.no (p := p) (p' := p) (a := ⟨#[]⟩) (t := false) (v := v) hj (by decide) (by rw [ht]; rw [decide_eq_false (by omega : ¬ n ≤ (3600 : Int))]; simp)
        have F : Hid _ := Turned.refl18 (fun k => k = g) w
        clear hj ht hag hB hk hok
        go_enter Tryd.func39, Tryd.ntmps39
        go_wp2_with fail
        refine (Calls.mono (HBd.out _)) ?_
        rintro e _ ⟨rfl, rfl⟩
        clear HBd
        go_wp2_with fail
        refine (Calls.mono HN.out) ?_
        rintro e _ ⟨rfl, rfl⟩
        clear HN
        go_wp2
        refine bodyPost_ret (v := .tuple #[.string ⟨#[]⟩, .bool false, .bool false]) (by first | rfl | simp [results, Tryd.results39, go_sem]) rfl ?_
        exact OneP.mk (HO.out) (F.out) (fun h => by cases h)
    · have dE : (E == 0) = false := by simpa using hE
      have dN : (E != 0) = true := by simpa using hE
      have HO : Hid _ := OneR.no (p := p) (p' := p) (a := ⟨#[]⟩) (t := false) (v := v) hj (by decide) (by rw [ht]; rw [dE]; rfl)
      have F : Hid _ := Turned.refl18 (fun k => k = g) w
      clear hj ht hag hB hk hok
      go_enter Tryd.func39, Tryd.ntmps39
      go_wp2_with fail
      refine (Calls.mono (HBd.out _)) ?_
      rintro e _ ⟨rfl, rfl⟩
      clear HBd
      go_wp2_with fail
      refine (Calls.mono HN.out) ?_
      rintro e _ ⟨rfl, rfl⟩
      clear HN
      go_wp2
      refine bodyPost_ret (v := .tuple #[.string ⟨#[]⟩, .bool false, .bool false]) (by first | rfl | simp [results, Tryd.results39, go_sem]) rfl ?_
      exact OneP.mk (HO.out) (F.out) (fun h => by cases h)
set_option maxHeartbeats 8000000 in
theorem rOne_17 (g : Nat) (p : Pm18) (k v : ByteArray) (w : World) (hj : keyIx k = 17) (hB : Blk w g 48 p.c) (hs : v.size ≤ 4194304) : Calls Tryd.prog 39 #[.pointer (some ⟨g, 0, none⟩), .string k, .string v] w fun e w' => OneP g p k v w e w' := by
  have hk : KF k 17 := by have h := (kf_any k).1; rw [hj] at h; exact h
  have HK : Hid _ := hk
  have HBd : Hid (∀ W, _) := fun W => rBd_17 k W hk
  have N1 := Blk.new' w 48 [.bool false, .bool false, .int .i64 0, .int .i64 0, .int .i64 0, .int .i64 0, .bool false, .bool false, .bool false, .string ⟨#[]⟩, .string ⟨#[]⟩]
  have bn1 : Below w.heap.size w (w.alloc (.cells #[.bool false, .bool false, .int .i64 0, .int .i64 0, .int .i64 0, .int .i64 0, .bool false, .bool false, .bool false, .string ⟨#[]⟩, .string ⟨#[]⟩] 48)) := (Below.refl _ _).alloc (Nat.le_refl _) _
  obtain ⟨w1, hw1⟩ : ∃ w1, w1 = w.alloc (.cells #[.bool false, .bool false, .int .i64 0, .int .i64 0, .int .i64 0, .int .i64 0, .bool false, .bool false, .bool false, .string ⟨#[]⟩, .string ⟨#[]⟩] 48) := ⟨_, rfl⟩
  rw [← hw1] at N1 bn1
  obtain ⟨g0, hg0⟩ : ∃ y, y = w.heap.size := ⟨_, rfl⟩
  rw [← hg0] at N1
  have hne : g ≠ g0 := by have := hB.lt; omega
  have HFn : Hid _ := rFl_17 g0 (⟨false, false, 0, 0, 0, 0, false, false, false, ⟨#[]⟩, ⟨#[]⟩⟩ : Pm18) k true w1 hk N1
  have HT : Hid (∀ W, Turned (fun k => k = g0) w1 W → Turned (fun k => k = g) w W ∧ Blk W g 48 p.c) := (fun W t => ⟨((turned_below bn1).mono (fun k h => h.elim)).trans (t.mono (fun k e => .inr (by rw [e, hg0]; exact Nat.le_refl _))), (hB.laterB bn1).turned t hne⟩ : ∀ W, Turned (fun k => k = g0) w1 W → Turned (fun k => k = g) w W ∧ Blk W g 48 p.c)
  have D1 : Hid ((yesS.toList == (⟨#[]⟩ : ByteArray).toList) = false) := (by rw [beq_toList]; decide : (yesS.toList == (⟨#[]⟩ : ByteArray).toList) = false)
  obtain ⟨b1, h1⟩ : ∃ b, (v.toList == yesS.toList) = b := ⟨_, rfl⟩
  obtain ⟨b2, h2⟩ : ∃ b, (v.toList == noS.toList) = b := ⟨_, rfl⟩
  have ht : takesM (rlI 17) v = (b1 || b2) := by rw [← h1, ← h2]; rfl
  have hag : ∀ p, agM 17 (rlI 17).an p v = ((flM 17 p b1).1, (flM 17 p b1).2, true) := fun p => by rw [← h1]; rfl
  have HO : Hid _ := And.intro (fun (h : b1 || b2) => OneR.yes (p := p) (v := v) hj (by decide) (ht.trans h) (hag p)) (fun (h : (b1 || b2) = false) => OneR.no (p := p) (p' := p) (a := ⟨#[]⟩) (t := false) (v := v) hj (by decide) (ht.trans h))
  have H1 : Hid _ := h1
  have H2 : Hid _ := h2
  have l2 : (v.toList == [78, 111]) = b2 := by rw [← h2, show noS.toList = [78, 111] by simp [ByteArray.toList_eq]]
  have HFl : Hid (∀ W, Blk W g 48 p.c → _) := fun W hW => rFl_17 g p k b1 W hk hW
  clear h1 h2 ht hag
  clear hj hk hB bn1 N1 hne
  go_enter Tryd.func39, Tryd.ntmps39
  go_wp2_with fail
  refine (Calls.mono (HBd.out _)) ?_
  rintro e _ ⟨rfl, rfl⟩
  clear HBd
  go_upto_region 9 with fail
  have E0 : Hid _ := (HK.out 0 _ rfl)
  go_upto_region 12 with (refine wpList_value rfl (exec_eqS rfl rfl rfl (b := false) E0.out) ?_)
  clear E0
  have E1 : Hid _ := (HK.out 1 _ rfl)
  go_upto_region 15 with (refine wpList_value rfl (exec_eqS rfl rfl rfl (b := false) E1.out) ?_)
  clear E1
  have E2 : Hid _ := (HK.out 2 _ rfl)
  go_upto_region 18 with (refine wpList_value rfl (exec_eqS rfl rfl rfl (b := false) E2.out) ?_)
  clear E2
  have E3 : Hid _ := (HK.out 3 _ rfl)
  go_upto_region 20 with (refine wpList_value rfl (exec_eqS rfl rfl rfl (b := false) E3.out) ?_)
  clear E3
  have E4 : Hid _ := (HK.out 4 _ rfl)
  go_upto_region 28 with (refine wpList_value rfl (exec_eqS rfl rfl rfl (b := false) E4.out) ?_)
  clear E4
  have E5 : Hid _ := (HK.out 5 _ rfl)
  go_upto_region 29 with (refine wpList_value rfl (exec_eqS rfl rfl rfl (b := false) E5.out) ?_)
  clear E5
  have E6 : Hid _ := (HK.out 6 _ rfl)
  go_upto_region 39 with (refine wpList_value rfl (exec_eqS rfl rfl rfl (b := false) E6.out) ?_)
  rw [← hw1, ← hg0]
  clear hw1 hg0
  go_wp2_with fail
  refine (Calls.mono HFn.out) ?_
  rintro e w2 ⟨rfl, t2, -⟩
  clear HFn
  have F : Hid _ := HT.out w2 t2
  clear HT t2
  cases b1
  · cases b2
    · go_wp2_with (first | (refine wpList_value rfl (exec_neS rfl rfl rfl (b := false) D1.out) ?_) | (refine wpList_value rfl (exec_neS rfl rfl rfl (b := _) H1.out) ?_) | (refine wpList_value rfl (exec_neS rfl rfl rfl (b := _) H2.out) ?_) | (refine wpList_value rfl (exec_eqS rfl rfl rfl (b := _) H1.out) ?_))
      refine bodyPost_ret (v := .tuple #[.string ⟨#[]⟩, .bool false, .bool false]) (by first | rfl | simp [results, Tryd.results39, go_sem]) rfl ?_
      exact OneP.mk (HO.out.2 rfl) (F.out.1) (fun h => by cases h)
    · go_wp2_with (first | (refine wpList_value rfl (exec_neS rfl rfl rfl (b := false) D1.out) ?_) | (refine wpList_value rfl (exec_neS rfl rfl rfl (b := _) H1.out) ?_) | (refine wpList_value rfl (exec_neS rfl rfl rfl (b := _) H2.out) ?_) | (refine wpList_value rfl (exec_eqS rfl rfl rfl (b := _) H1.out) ?_))
      refine (Calls.mono (HFl.out _ F.out.2)) ?_
      rintro e w3 ⟨rfl, t3, B3⟩
      have F3 : Hid _ := And.intro (F.out.1.trans (t3.mono (fun k h => .inl h))) B3
      clear t3 B3 F HFl
      go_wp2
      refine bodyPost_ret (v := .tuple #[.string (flM 17 p false).2, .bool true, .bool true]) (by first | rfl | simp [results, Tryd.results39, go_sem]) rfl ?_
      exact OneP.mk (HO.out.1 (by rfl)) (F3.out.1) (fun _ => F3.out.2)
  · go_wp2_with (first | (refine wpList_value rfl (exec_neS rfl rfl rfl (b := false) D1.out) ?_) | (refine wpList_value rfl (exec_neS rfl rfl rfl (b := _) H1.out) ?_) | (refine wpList_value rfl (exec_neS rfl rfl rfl (b := _) H2.out) ?_) | (refine wpList_value rfl (exec_eqS rfl rfl rfl (b := _) H1.out) ?_))
    refine (Calls.mono (HFl.out _ F.out.2)) ?_
    rintro e w3 ⟨rfl, t3, B3⟩
    have F3 : Hid _ := And.intro (F.out.1.trans (t3.mono (fun k h => .inl h))) B3
    clear t3 B3 F HFl
    go_wp2
    refine bodyPost_ret (v := .tuple #[.string (flM 17 p true).2, .bool true, .bool true]) (by first | rfl | simp [results, Tryd.results39, go_sem]) rfl ?_
    exact OneP.mk (HO.out.1 rfl) (F3.out.1) (fun _ => F3.out.2)
set_option maxHeartbeats 8000000 in
theorem rOne_18 (g : Nat) (p : Pm18) (k v : ByteArray) (w : World) (hj : keyIx k = 18) (hB : Blk w g 48 p.c) (hs : v.size ≤ 4194304) : Calls Tryd.prog 39 #[.pointer (some ⟨g, 0, none⟩), .string k, .string v] w fun e w' => OneP g p k v w e w' := by
  have hk : KF k 18 := by have h := (kf_any k).1; rw [hj] at h; exact h
  have HK : Hid _ := hk
  have HBd : Hid (∀ W, _) := fun W => rBd_18 k W hk
  have N1 := Blk.new' w 48 [.bool false, .bool false, .int .i64 0, .int .i64 0, .int .i64 0, .int .i64 0, .bool false, .bool false, .bool false, .string ⟨#[]⟩, .string ⟨#[]⟩]
  have bn1 : Below w.heap.size w (w.alloc (.cells #[.bool false, .bool false, .int .i64 0, .int .i64 0, .int .i64 0, .int .i64 0, .bool false, .bool false, .bool false, .string ⟨#[]⟩, .string ⟨#[]⟩] 48)) := (Below.refl _ _).alloc (Nat.le_refl _) _
  obtain ⟨w1, hw1⟩ : ∃ w1, w1 = w.alloc (.cells #[.bool false, .bool false, .int .i64 0, .int .i64 0, .int .i64 0, .int .i64 0, .bool false, .bool false, .bool false, .string ⟨#[]⟩, .string ⟨#[]⟩] 48) := ⟨_, rfl⟩
  rw [← hw1] at N1 bn1
  obtain ⟨g0, hg0⟩ : ∃ y, y = w.heap.size := ⟨_, rfl⟩
  rw [← hg0] at N1
  have hne : g ≠ g0 := by have := hB.lt; omega
  have HFn : Hid _ := rFl_18 g0 (⟨false, false, 0, 0, 0, 0, false, false, false, ⟨#[]⟩, ⟨#[]⟩⟩ : Pm18) k true w1 hk N1
  have HT : Hid (∀ W, Turned (fun k => k = g0) w1 W → Turned (fun k => k = g) w W ∧ Blk W g 48 p.c) := (fun W t => ⟨((turned_below bn1).mono (fun k h => h.elim)).trans (t.mono (fun k e => .inr (by rw [e, hg0]; exact Nat.le_refl _))), (hB.laterB bn1).turned t hne⟩ : ∀ W, Turned (fun k => k = g0) w1 W → Turned (fun k => k = g) w W ∧ Blk W g 48 p.c)
  have D1 : Hid ((yesS.toList == (⟨#[]⟩ : ByteArray).toList) = false) := (by rw [beq_toList]; decide : (yesS.toList == (⟨#[]⟩ : ByteArray).toList) = false)
  obtain ⟨b1, h1⟩ : ∃ b, (v.toList == yesS.toList) = b := ⟨_, rfl⟩
  obtain ⟨b2, h2⟩ : ∃ b, (v.toList == noS.toList) = b := ⟨_, rfl⟩
  have ht : takesM (rlI 18) v = (b1 || b2) := by rw [← h1, ← h2]; rfl
  have hag : ∀ p, agM 18 (rlI 18).an p v = ((flM 18 p b1).1, (flM 18 p b1).2, true) := fun p => by rw [← h1]; rfl
  have HO : Hid _ := And.intro (fun (h : b1 || b2) => OneR.yes (p := p) (v := v) hj (by decide) (ht.trans h) (hag p)) (fun (h : (b1 || b2) = false) => OneR.no (p := p) (p' := p) (a := ⟨#[]⟩) (t := false) (v := v) hj (by decide) (ht.trans h))
  have H1 : Hid _ := h1
  have H2 : Hid _ := h2
  have l2 : (v.toList == [78, 111]) = b2 := by rw [← h2, show noS.toList = [78, 111] by simp [ByteArray.toList_eq]]
  have HFl : Hid (∀ W, Blk W g 48 p.c → _) := fun W hW => rFl_18 g p k b1 W hk hW
  clear h1 h2 ht hag
  clear hj hk hB bn1 N1 hne
  go_enter Tryd.func39, Tryd.ntmps39
  go_wp2_with fail
  refine (Calls.mono (HBd.out _)) ?_
  rintro e _ ⟨rfl, rfl⟩
  clear HBd
  go_upto_region 9 with fail
  have E0 : Hid _ := (HK.out 0 _ rfl)
  go_upto_region 12 with (refine wpList_value rfl (exec_eqS rfl rfl rfl (b := false) E0.out) ?_)
  clear E0
  have E1 : Hid _ := (HK.out 1 _ rfl)
  go_upto_region 15 with (refine wpList_value rfl (exec_eqS rfl rfl rfl (b := false) E1.out) ?_)
  clear E1
  have E2 : Hid _ := (HK.out 2 _ rfl)
  go_upto_region 18 with (refine wpList_value rfl (exec_eqS rfl rfl rfl (b := false) E2.out) ?_)
  clear E2
  have E3 : Hid _ := (HK.out 3 _ rfl)
  go_upto_region 20 with (refine wpList_value rfl (exec_eqS rfl rfl rfl (b := false) E3.out) ?_)
  clear E3
  have E4 : Hid _ := (HK.out 4 _ rfl)
  go_upto_region 28 with (refine wpList_value rfl (exec_eqS rfl rfl rfl (b := false) E4.out) ?_)
  clear E4
  have E5 : Hid _ := (HK.out 5 _ rfl)
  go_upto_region 29 with (refine wpList_value rfl (exec_eqS rfl rfl rfl (b := false) E5.out) ?_)
  clear E5
  have E6 : Hid _ := (HK.out 6 _ rfl)
  go_upto_region 39 with (refine wpList_value rfl (exec_eqS rfl rfl rfl (b := false) E6.out) ?_)
  rw [← hw1, ← hg0]
  clear hw1 hg0
  go_wp2_with fail
  refine (Calls.mono HFn.out) ?_
  rintro e w2 ⟨rfl, t2, -⟩
  clear HFn
  have F : Hid _ := HT.out w2 t2
  clear HT t2
  cases b1
  · cases b2
    · go_wp2_with (first | (refine wpList_value rfl (exec_neS rfl rfl rfl (b := false) D1.out) ?_) | (refine wpList_value rfl (exec_neS rfl rfl rfl (b := _) H1.out) ?_) | (refine wpList_value rfl (exec_neS rfl rfl rfl (b := _) H2.out) ?_) | (refine wpList_value rfl (exec_eqS rfl rfl rfl (b := _) H1.out) ?_))
      refine bodyPost_ret (v := .tuple #[.string ⟨#[]⟩, .bool false, .bool false]) (by first | rfl | simp [results, Tryd.results39, go_sem]) rfl ?_
      exact OneP.mk (HO.out.2 rfl) (F.out.1) (fun h => by cases h)
    · go_wp2_with (first | (refine wpList_value rfl (exec_neS rfl rfl rfl (b := false) D1.out) ?_) | (refine wpList_value rfl (exec_neS rfl rfl rfl (b := _) H1.out) ?_) | (refine wpList_value rfl (exec_neS rfl rfl rfl (b := _) H2.out) ?_) | (refine wpList_value rfl (exec_eqS rfl rfl rfl (b := _) H1.out) ?_))
      refine (Calls.mono (HFl.out _ F.out.2)) ?_
      rintro e w3 ⟨rfl, t3, B3⟩
      have F3 : Hid _ := And.intro (F.out.1.trans (t3.mono (fun k h => .inl h))) B3
      clear t3 B3 F HFl
      go_wp2
      refine bodyPost_ret (v := .tuple #[.string (flM 18 p false).2, .bool true, .bool true]) (by first | rfl | simp [results, Tryd.results39, go_sem]) rfl ?_
      exact OneP.mk (HO.out.1 (by rfl)) (F3.out.1) (fun _ => F3.out.2)
  · go_wp2_with (first | (refine wpList_value rfl (exec_neS rfl rfl rfl (b := false) D1.out) ?_) | (refine wpList_value rfl (exec_neS rfl rfl rfl (b := _) H1.out) ?_) | (refine wpList_value rfl (exec_neS rfl rfl rfl (b := _) H2.out) ?_) | (refine wpList_value rfl (exec_eqS rfl rfl rfl (b := _) H1.out) ?_))
    refine (Calls.mono (HFl.out _ F.out.2)) ?_
    rintro e w3 ⟨rfl, t3, B3⟩
    have F3 : Hid _ := And.intro (F.out.1.trans (t3.mono (fun k h => .inl h))) B3
    clear t3 B3 F HFl
    go_wp2
    refine bodyPost_ret (v := .tuple #[.string (flM 18 p true).2, .bool true, .bool true]) (by first | rfl | simp [results, Tryd.results39, go_sem]) rfl ?_
    exact OneP.mk (HO.out.1 rfl) (F3.out.1) (fun _ => F3.out.2)
set_option maxHeartbeats 8000000 in
theorem rOne_19 (g : Nat) (p : Pm18) (k v : ByteArray) (w : World) (hj : keyIx k = 19) (hB : Blk w g 48 p.c) (hs : v.size ≤ 4194304) : Calls Tryd.prog 39 #[.pointer (some ⟨g, 0, none⟩), .string k, .string v] w fun e w' => OneP g p k v w e w' := by
  have hk : KF k 19 := by have h := (kf_any k).1; rw [hj] at h; exact h
  have HK : Hid _ := hk
  have HBd : Hid (∀ W, _) := fun W => rBd_19 k W hk
  have N1 := Blk.new' w 48 [.bool false, .bool false, .int .i64 0, .int .i64 0, .int .i64 0, .int .i64 0, .bool false, .bool false, .bool false, .string ⟨#[]⟩, .string ⟨#[]⟩]
  have bn1 : Below w.heap.size w (w.alloc (.cells #[.bool false, .bool false, .int .i64 0, .int .i64 0, .int .i64 0, .int .i64 0, .bool false, .bool false, .bool false, .string ⟨#[]⟩, .string ⟨#[]⟩] 48)) := (Below.refl _ _).alloc (Nat.le_refl _) _
  obtain ⟨w1, hw1⟩ : ∃ w1, w1 = w.alloc (.cells #[.bool false, .bool false, .int .i64 0, .int .i64 0, .int .i64 0, .int .i64 0, .bool false, .bool false, .bool false, .string ⟨#[]⟩, .string ⟨#[]⟩] 48) := ⟨_, rfl⟩
  rw [← hw1] at N1 bn1
  obtain ⟨g0, hg0⟩ : ∃ y, y = w.heap.size := ⟨_, rfl⟩
  rw [← hg0] at N1
  have hne : g ≠ g0 := by have := hB.lt; omega
  have HFn : Hid _ := rFl_19 g0 (⟨false, false, 0, 0, 0, 0, false, false, false, ⟨#[]⟩, ⟨#[]⟩⟩ : Pm18) k true w1 hk N1
  have HT : Hid (∀ W, Turned (fun k => k = g0) w1 W → Turned (fun k => k = g) w W ∧ Blk W g 48 p.c) := (fun W t => ⟨((turned_below bn1).mono (fun k h => h.elim)).trans (t.mono (fun k e => .inr (by rw [e, hg0]; exact Nat.le_refl _))), (hB.laterB bn1).turned t hne⟩ : ∀ W, Turned (fun k => k = g0) w1 W → Turned (fun k => k = g) w W ∧ Blk W g 48 p.c)
  have D1 : Hid ((noS.toList == (⟨#[]⟩ : ByteArray).toList) = false) := (by rw [beq_toList]; decide : (noS.toList == (⟨#[]⟩ : ByteArray).toList) = false)
  obtain ⟨b1, h1⟩ : ∃ b, (v.toList == yesS.toList) = b := ⟨_, rfl⟩
  obtain ⟨b2, h2⟩ : ∃ b, (v.toList == noS.toList) = b := ⟨_, rfl⟩
  have ht : takesM (rlI 19) v = (b1 || b2) := by rw [← h1, ← h2]; rfl
  have hag : ∀ p, agM 19 (rlI 19).an p v = ((flM 19 p b1).1, (flM 19 p b1).2, true) := fun p => by rw [← h1]; rfl
  have HO : Hid _ := And.intro (fun (h : b1 || b2) => OneR.yes (p := p) (v := v) hj (by decide) (ht.trans h) (hag p)) (fun (h : (b1 || b2) = false) => OneR.no (p := p) (p' := p) (a := ⟨#[]⟩) (t := false) (v := v) hj (by decide) (ht.trans h))
  have H1 : Hid _ := h1
  have H2 : Hid _ := h2
  have l2 : (v.toList == [78, 111]) = b2 := by rw [← h2, show noS.toList = [78, 111] by simp [ByteArray.toList_eq]]
  have HFl : Hid (∀ W, Blk W g 48 p.c → _) := fun W hW => rFl_19 g p k b1 W hk hW
  clear h1 h2 ht hag
  clear hj hk hB bn1 N1 hne
  go_enter Tryd.func39, Tryd.ntmps39
  go_wp2_with fail
  refine (Calls.mono (HBd.out _)) ?_
  rintro e _ ⟨rfl, rfl⟩
  clear HBd
  go_upto_region 9 with fail
  have E0 : Hid _ := (HK.out 0 _ rfl)
  go_upto_region 12 with (refine wpList_value rfl (exec_eqS rfl rfl rfl (b := false) E0.out) ?_)
  clear E0
  have E1 : Hid _ := (HK.out 1 _ rfl)
  go_upto_region 15 with (refine wpList_value rfl (exec_eqS rfl rfl rfl (b := false) E1.out) ?_)
  clear E1
  have E2 : Hid _ := (HK.out 2 _ rfl)
  go_upto_region 18 with (refine wpList_value rfl (exec_eqS rfl rfl rfl (b := false) E2.out) ?_)
  clear E2
  have E3 : Hid _ := (HK.out 3 _ rfl)
  go_upto_region 20 with (refine wpList_value rfl (exec_eqS rfl rfl rfl (b := false) E3.out) ?_)
  clear E3
  have E4 : Hid _ := (HK.out 4 _ rfl)
  go_upto_region 28 with (refine wpList_value rfl (exec_eqS rfl rfl rfl (b := false) E4.out) ?_)
  clear E4
  have E5 : Hid _ := (HK.out 5 _ rfl)
  go_upto_region 29 with (refine wpList_value rfl (exec_eqS rfl rfl rfl (b := false) E5.out) ?_)
  clear E5
  have E6 : Hid _ := (HK.out 6 _ rfl)
  go_upto_region 39 with (refine wpList_value rfl (exec_eqS rfl rfl rfl (b := false) E6.out) ?_)
  rw [← hw1, ← hg0]
  clear hw1 hg0
  go_wp2_with fail
  refine (Calls.mono HFn.out) ?_
  rintro e w2 ⟨rfl, t2, -⟩
  clear HFn
  have F : Hid _ := HT.out w2 t2
  clear HT t2
  cases b1
  · cases b2
    · go_wp2_with (first | (refine wpList_value rfl (exec_neS rfl rfl rfl (b := false) D1.out) ?_) | (refine wpList_value rfl (exec_neS rfl rfl rfl (b := _) H1.out) ?_) | (refine wpList_value rfl (exec_neS rfl rfl rfl (b := _) H2.out) ?_) | (refine wpList_value rfl (exec_eqS rfl rfl rfl (b := _) H1.out) ?_))
      refine bodyPost_ret (v := .tuple #[.string ⟨#[]⟩, .bool false, .bool false]) (by first | rfl | simp [results, Tryd.results39, go_sem]) rfl ?_
      exact OneP.mk (HO.out.2 rfl) (F.out.1) (fun h => by cases h)
    · go_wp2_with (first | (refine wpList_value rfl (exec_neS rfl rfl rfl (b := false) D1.out) ?_) | (refine wpList_value rfl (exec_neS rfl rfl rfl (b := _) H1.out) ?_) | (refine wpList_value rfl (exec_neS rfl rfl rfl (b := _) H2.out) ?_) | (refine wpList_value rfl (exec_eqS rfl rfl rfl (b := _) H1.out) ?_))
      refine (Calls.mono (HFl.out _ F.out.2)) ?_
      rintro e w3 ⟨rfl, t3, B3⟩
      have F3 : Hid _ := And.intro (F.out.1.trans (t3.mono (fun k h => .inl h))) B3
      clear t3 B3 F HFl
      go_wp2
      refine bodyPost_ret (v := .tuple #[.string (flM 19 p false).2, .bool true, .bool true]) (by first | rfl | simp [results, Tryd.results39, go_sem]) rfl ?_
      exact OneP.mk (HO.out.1 (by rfl)) (F3.out.1) (fun _ => F3.out.2)
  · go_wp2_with (first | (refine wpList_value rfl (exec_neS rfl rfl rfl (b := false) D1.out) ?_) | (refine wpList_value rfl (exec_neS rfl rfl rfl (b := _) H1.out) ?_) | (refine wpList_value rfl (exec_neS rfl rfl rfl (b := _) H2.out) ?_) | (refine wpList_value rfl (exec_eqS rfl rfl rfl (b := _) H1.out) ?_))
    refine (Calls.mono (HFl.out _ F.out.2)) ?_
    rintro e w3 ⟨rfl, t3, B3⟩
    have F3 : Hid _ := And.intro (F.out.1.trans (t3.mono (fun k h => .inl h))) B3
    clear t3 B3 F HFl
    go_wp2
    refine bodyPost_ret (v := .tuple #[.string (flM 19 p true).2, .bool true, .bool true]) (by first | rfl | simp [results, Tryd.results39, go_sem]) rfl ?_
    exact OneP.mk (HO.out.1 rfl) (F3.out.1) (fun _ => F3.out.2)
set_option maxHeartbeats 8000000 in
theorem rOne_20 (g : Nat) (p : Pm18) (k v : ByteArray) (w : World) (hj : keyIx k = 20) (hB : Blk w g 48 p.c) (hs : v.size ≤ 4194304) : Calls Tryd.prog 39 #[.pointer (some ⟨g, 0, none⟩), .string k, .string v] w fun e w' => OneP g p k v w e w' := by
  have hk : KF k 20 := by have h := (kf_any k).1; rw [hj] at h; exact h
  have HK : Hid _ := hk
  have HBd : Hid (∀ W, _) := fun W => rBd_20 k W hk
  have N1 := Blk.new' w 48 [.bool false, .bool false, .int .i64 0, .int .i64 0, .int .i64 0, .int .i64 0, .bool false, .bool false, .bool false, .string ⟨#[]⟩, .string ⟨#[]⟩]
  have bn1 : Below w.heap.size w (w.alloc (.cells #[.bool false, .bool false, .int .i64 0, .int .i64 0, .int .i64 0, .int .i64 0, .bool false, .bool false, .bool false, .string ⟨#[]⟩, .string ⟨#[]⟩] 48)) := (Below.refl _ _).alloc (Nat.le_refl _) _
  obtain ⟨w1, hw1⟩ : ∃ w1, w1 = w.alloc (.cells #[.bool false, .bool false, .int .i64 0, .int .i64 0, .int .i64 0, .int .i64 0, .bool false, .bool false, .bool false, .string ⟨#[]⟩, .string ⟨#[]⟩] 48) := ⟨_, rfl⟩
  rw [← hw1] at N1 bn1
  obtain ⟨g0, hg0⟩ : ∃ y, y = w.heap.size := ⟨_, rfl⟩
  rw [← hg0] at N1
  have hne : g ≠ g0 := by have := hB.lt; omega
  have HFn : Hid _ := rFl_20 g0 (⟨false, false, 0, 0, 0, 0, false, false, false, ⟨#[]⟩, ⟨#[]⟩⟩ : Pm18) k true w1 hk N1
  have HT : Hid (∀ W, Turned (fun k => k = g0) w1 W → Turned (fun k => k = g) w W ∧ Blk W g 48 p.c) := (fun W t => ⟨((turned_below bn1).mono (fun k h => h.elim)).trans (t.mono (fun k e => .inr (by rw [e, hg0]; exact Nat.le_refl _))), (hB.laterB bn1).turned t hne⟩ : ∀ W, Turned (fun k => k = g0) w1 W → Turned (fun k => k = g) w W ∧ Blk W g 48 p.c)
  have D1 : Hid ((noS.toList == (⟨#[]⟩ : ByteArray).toList) = false) := (by rw [beq_toList]; decide : (noS.toList == (⟨#[]⟩ : ByteArray).toList) = false)
  obtain ⟨b1, h1⟩ : ∃ b, (v.toList == yesS.toList) = b := ⟨_, rfl⟩
  obtain ⟨b2, h2⟩ : ∃ b, (v.toList == noS.toList) = b := ⟨_, rfl⟩
  have ht : takesM (rlI 20) v = (b1 || b2) := by rw [← h1, ← h2]; rfl
  have hag : ∀ p, agM 20 (rlI 20).an p v = ((flM 20 p b1).1, (flM 20 p b1).2, true) := fun p => by rw [← h1]; rfl
  have HO : Hid _ := And.intro (fun (h : b1 || b2) => OneR.yes (p := p) (v := v) hj (by decide) (ht.trans h) (hag p)) (fun (h : (b1 || b2) = false) => OneR.no (p := p) (p' := p) (a := ⟨#[]⟩) (t := false) (v := v) hj (by decide) (ht.trans h))
  have H1 : Hid _ := h1
  have H2 : Hid _ := h2
  have l2 : (v.toList == [78, 111]) = b2 := by rw [← h2, show noS.toList = [78, 111] by simp [ByteArray.toList_eq]]
  have HFl : Hid (∀ W, Blk W g 48 p.c → _) := fun W hW => rFl_20 g p k b1 W hk hW
  clear h1 h2 ht hag
  clear hj hk hB bn1 N1 hne
  go_enter Tryd.func39, Tryd.ntmps39
  go_wp2_with fail
  refine (Calls.mono (HBd.out _)) ?_
  rintro e _ ⟨rfl, rfl⟩
  clear HBd
  go_upto_region 9 with fail
  have E0 : Hid _ := (HK.out 0 _ rfl)
  go_upto_region 12 with (refine wpList_value rfl (exec_eqS rfl rfl rfl (b := false) E0.out) ?_)
  clear E0
  have E1 : Hid _ := (HK.out 1 _ rfl)
  go_upto_region 15 with (refine wpList_value rfl (exec_eqS rfl rfl rfl (b := false) E1.out) ?_)
  clear E1
  have E2 : Hid _ := (HK.out 2 _ rfl)
  go_upto_region 18 with (refine wpList_value rfl (exec_eqS rfl rfl rfl (b := false) E2.out) ?_)
  clear E2
  have E3 : Hid _ := (HK.out 3 _ rfl)
  go_upto_region 20 with (refine wpList_value rfl (exec_eqS rfl rfl rfl (b := false) E3.out) ?_)
  clear E3
  have E4 : Hid _ := (HK.out 4 _ rfl)
  go_upto_region 28 with (refine wpList_value rfl (exec_eqS rfl rfl rfl (b := false) E4.out) ?_)
  clear E4
  have E5 : Hid _ := (HK.out 5 _ rfl)
  go_upto_region 29 with (refine wpList_value rfl (exec_eqS rfl rfl rfl (b := false) E5.out) ?_)
  clear E5
  have E6 : Hid _ := (HK.out 6 _ rfl)
  go_upto_region 39 with (refine wpList_value rfl (exec_eqS rfl rfl rfl (b := false) E6.out) ?_)
  rw [← hw1, ← hg0]
  clear hw1 hg0
  go_wp2_with fail
  refine (Calls.mono HFn.out) ?_
  rintro e w2 ⟨rfl, t2, -⟩
  clear HFn
  have F : Hid _ := HT.out w2 t2
  clear HT t2
  cases b1
  · cases b2
    · go_wp2_with (first | (refine wpList_value rfl (exec_neS rfl rfl rfl (b := false) D1.out) ?_) | (refine wpList_value rfl (exec_neS rfl rfl rfl (b := _) H1.out) ?_) | (refine wpList_value rfl (exec_neS rfl rfl rfl (b := _) H2.out) ?_) | (refine wpList_value rfl (exec_eqS rfl rfl rfl (b := _) H1.out) ?_))
      refine bodyPost_ret (v := .tuple #[.string ⟨#[]⟩, .bool false, .bool false]) (by first | rfl | simp [results, Tryd.results39, go_sem]) rfl ?_
      exact OneP.mk (HO.out.2 rfl) (F.out.1) (fun h => by cases h)
    · go_wp2_with (first | (refine wpList_value rfl (exec_neS rfl rfl rfl (b := false) D1.out) ?_) | (refine wpList_value rfl (exec_neS rfl rfl rfl (b := _) H1.out) ?_) | (refine wpList_value rfl (exec_neS rfl rfl rfl (b := _) H2.out) ?_) | (refine wpList_value rfl (exec_eqS rfl rfl rfl (b := _) H1.out) ?_))
      refine (Calls.mono (HFl.out _ F.out.2)) ?_
      rintro e w3 ⟨rfl, t3, B3⟩
      have F3 : Hid _ := And.intro (F.out.1.trans (t3.mono (fun k h => .inl h))) B3
      clear t3 B3 F HFl
      go_wp2
      refine bodyPost_ret (v := .tuple #[.string (flM 20 p false).2, .bool true, .bool true]) (by first | rfl | simp [results, Tryd.results39, go_sem]) rfl ?_
      exact OneP.mk (HO.out.1 (by rfl)) (F3.out.1) (fun _ => F3.out.2)
  · go_wp2_with (first | (refine wpList_value rfl (exec_neS rfl rfl rfl (b := false) D1.out) ?_) | (refine wpList_value rfl (exec_neS rfl rfl rfl (b := _) H1.out) ?_) | (refine wpList_value rfl (exec_neS rfl rfl rfl (b := _) H2.out) ?_) | (refine wpList_value rfl (exec_eqS rfl rfl rfl (b := _) H1.out) ?_))
    refine (Calls.mono (HFl.out _ F.out.2)) ?_
    rintro e w3 ⟨rfl, t3, B3⟩
    have F3 : Hid _ := And.intro (F.out.1.trans (t3.mono (fun k h => .inl h))) B3
    clear t3 B3 F HFl
    go_wp2
    refine bodyPost_ret (v := .tuple #[.string (flM 20 p true).2, .bool true, .bool true]) (by first | rfl | simp [results, Tryd.results39, go_sem]) rfl ?_
    exact OneP.mk (HO.out.1 rfl) (F3.out.1) (fun _ => F3.out.2)
set_option maxHeartbeats 8000000 in
theorem rOne_21 (g : Nat) (p : Pm18) (k v : ByteArray) (w : World) (hj : keyIx k = 21) (hB : Blk w g 48 p.c) (hs : v.size ≤ 4194304) : Calls Tryd.prog 39 #[.pointer (some ⟨g, 0, none⟩), .string k, .string v] w fun e w' => OneP g p k v w e w' := by
  have hk : KF k 21 := by have h := (kf_any k).1; rw [hj] at h; exact h
  have HK : Hid _ := hk
  have HBd : Hid (∀ W, _) := fun W => rBd_21 k W hk
  have N1 := Blk.new' w 48 [.bool false, .bool false, .int .i64 0, .int .i64 0, .int .i64 0, .int .i64 0, .bool false, .bool false, .bool false, .string ⟨#[]⟩, .string ⟨#[]⟩]
  have bn1 : Below w.heap.size w (w.alloc (.cells #[.bool false, .bool false, .int .i64 0, .int .i64 0, .int .i64 0, .int .i64 0, .bool false, .bool false, .bool false, .string ⟨#[]⟩, .string ⟨#[]⟩] 48)) := (Below.refl _ _).alloc (Nat.le_refl _) _
  obtain ⟨w1, hw1⟩ : ∃ w1, w1 = w.alloc (.cells #[.bool false, .bool false, .int .i64 0, .int .i64 0, .int .i64 0, .int .i64 0, .bool false, .bool false, .bool false, .string ⟨#[]⟩, .string ⟨#[]⟩] 48) := ⟨_, rfl⟩
  rw [← hw1] at N1 bn1
  obtain ⟨g0, hg0⟩ : ∃ y, y = w.heap.size := ⟨_, rfl⟩
  rw [← hg0] at N1
  have hne : g ≠ g0 := by have := hB.lt; omega
  have HFn : Hid _ := rFl_21 g0 (⟨false, false, 0, 0, 0, 0, false, false, false, ⟨#[]⟩, ⟨#[]⟩⟩ : Pm18) k true w1 hk N1
  have HT : Hid (∀ W, Turned (fun k => k = g0) w1 W → Turned (fun k => k = g) w W ∧ Blk W g 48 p.c) := (fun W t => ⟨((turned_below bn1).mono (fun k h => h.elim)).trans (t.mono (fun k e => .inr (by rw [e, hg0]; exact Nat.le_refl _))), (hB.laterB bn1).turned t hne⟩ : ∀ W, Turned (fun k => k = g0) w1 W → Turned (fun k => k = g) w W ∧ Blk W g 48 p.c)
  have D1 : Hid (((⟨#[]⟩ : ByteArray).toList == (⟨#[]⟩ : ByteArray).toList) = true) := (by rw [beq_toList]; decide : ((⟨#[]⟩ : ByteArray).toList == (⟨#[]⟩ : ByteArray).toList) = true)
  have HO : Hid _ := OneR.unk (p := p) (v := v) hj
  clear hj hk hB bn1 N1 hne
  go_enter Tryd.func39, Tryd.ntmps39
  go_wp2_with fail
  refine (Calls.mono (HBd.out _)) ?_
  rintro e _ ⟨rfl, rfl⟩
  clear HBd
  go_upto_region 9 with fail
  have E0 : Hid _ := (HK.out 0 _ rfl)
  go_upto_region 12 with (refine wpList_value rfl (exec_eqS rfl rfl rfl (b := false) E0.out) ?_)
  clear E0
  have E1 : Hid _ := (HK.out 1 _ rfl)
  go_upto_region 15 with (refine wpList_value rfl (exec_eqS rfl rfl rfl (b := false) E1.out) ?_)
  clear E1
  have E2 : Hid _ := (HK.out 2 _ rfl)
  go_upto_region 18 with (refine wpList_value rfl (exec_eqS rfl rfl rfl (b := false) E2.out) ?_)
  clear E2
  have E3 : Hid _ := (HK.out 3 _ rfl)
  go_upto_region 20 with (refine wpList_value rfl (exec_eqS rfl rfl rfl (b := false) E3.out) ?_)
  clear E3
  have E4 : Hid _ := (HK.out 4 _ rfl)
  go_upto_region 28 with (refine wpList_value rfl (exec_eqS rfl rfl rfl (b := false) E4.out) ?_)
  clear E4
  have E5 : Hid _ := (HK.out 5 _ rfl)
  go_upto_region 29 with (refine wpList_value rfl (exec_eqS rfl rfl rfl (b := false) E5.out) ?_)
  clear E5
  have E6 : Hid _ := (HK.out 6 _ rfl)
  go_upto_region 39 with (refine wpList_value rfl (exec_eqS rfl rfl rfl (b := false) E6.out) ?_)
  rw [← hw1, ← hg0]
  clear hw1 hg0
  go_wp2_with fail
  refine (Calls.mono HFn.out) ?_
  rintro e w2 ⟨rfl, t2, -⟩
  clear HFn
  have F : Hid _ := HT.out w2 t2
  clear HT t2
  go_wp2_with (refine wpList_value rfl (exec_neS rfl rfl rfl (b := true) D1.out) ?_)
  refine bodyPost_ret (v := .tuple #[.string unkS, .bool true, .bool true]) (by first | rfl | simp [results, Tryd.results39, go_sem]) rfl ?_
  exact OneP.mk (HO.out) (F.out.1) (fun _ => F.out.2)
theorem rOne_any (g : Nat) (p : Pm18) (k v : ByteArray) (w : World) (hB : Blk w g 48 p.c) (hs : v.size ≤ 4194304) : Calls Tryd.prog 39 #[.pointer (some ⟨g, 0, none⟩), .string k, .string v] w fun e w' => OneP g p k v w e w' := by
  have hl : keyIx k ≤ 21 := (kf_any k).2
  generalize hj : keyIx k = j at hl
  rcases nat22 hl with rfl | rfl | rfl | rfl | rfl | rfl | rfl | rfl | rfl | rfl | rfl | rfl | rfl | rfl | rfl | rfl | rfl | rfl | rfl | rfl | rfl | rfl
  · exact rOne_0 g p k v w hj hB hs
  · exact rOne_1 g p k v w hj hB hs
  · exact rOne_2 g p k v w hj hB hs
  · exact rOne_3 g p k v w hj hB hs
  · exact rOne_4 g p k v w hj hB hs
  · exact rOne_5 g p k v w hj hB hs
  · exact rOne_6 g p k v w hj hB hs
  · exact rOne_7 g p k v w hj hB hs
  · exact rOne_8 g p k v w hj hB hs
  · exact rOne_9 g p k v w hj hB hs
  · exact rOne_10 g p k v w hj hB hs
  · exact rOne_11 g p k v w hj hB hs
  · exact rOne_12 g p k v w hj hB hs
  · exact rOne_13 g p k v w hj hB hs
  · exact rOne_14 g p k v w hj hB hs
  · exact rOne_15 g p k v w hj hB hs
  · exact rOne_16 g p k v w hj hB hs
  · exact rOne_17 g p k v w hj hB hs
  · exact rOne_18 g p k v w hj hB hs
  · exact rOne_19 g p k v w hj hB hs
  · exact rOne_20 g p k v w hj hB hs
  · exact rOne_21 g p k v w hj hB hs
end Go.Proofs.YtligmiajlbjecaaDoor

