/- resv: three who register, in two orders; a preempting of the key that two of them have. No Go. -/
import Derived.Test.YtlopkfenbeahgaaXRv29
namespace Go.Proofs.Ytlopkfenbeahgaa
open Go.RowKit
set_option linter.unusedVariables false
set_option linter.unusedSimpArgs false
set_option maxRecDepth 4000

def oSt (g : Int) (ks : List Int) : Rs := ⟨g, 0, 0, List.replicate 16 false, ks⟩
theorem rep_set (i : Nat) : (List.replicate 16 false).set i false = List.replicate 16 false := by
  rcases Nat.lt_or_ge i 16 with h | h
  · have : ∀ j : Fin 16, (List.replicate 16 false).set j.val false = List.replicate 16 false := by decide
    exact this ⟨i, h⟩
  · exact List.set_eq_of_length_le (by simpa using h)
theorem reg_step {g : Int} {ks : List Int} {i : Nat} {x : Int} (hg : 0 ≤ g ∧ g < 1000) (hi : i < 16) (hx : x ≠ 0) (h : ks.getD i 0 = 0) : doM (oSt g ks) (i : Int) ⟨0, 0, x, 0⟩ = ((0, 0, 0, 0), oSt (g + 1) (ks.set i x), []) := by
  unfold doM
  rw [if_neg (by rw [nxB_nat hi]; decide), if_pos rfl]
  unfold regM
  rw [if_pos (by show (0 : Int) = ks.getD (i : Int).toNat 0; rw [Int.toNat_natCast, h])]
  unfold ignM
  rw [if_neg hx, Int.toNat_natCast]
  unfold bump give oSt
  simp only [rep_set]
  congr 2
  congr 1
  omega
theorem set_at (ks : List Int) (i : Nat) (x : Int) (j : Nat) (hi : i < ks.length) : (ks.set i x).getD j 0 = if i = j then x else ks.getD j 0 := by
  rw [List.getD_eq_getElem?_getD, List.getD_eq_getElem?_getD, List.getElem?_set]
  by_cases h : i = j
  · rw [if_pos h, if_pos h, if_pos hi]; rfl
  · rw [if_neg h, if_neg h]
theorem z16_at (j : Nat) : z16.getD j 0 = 0 := by
  rcases Nat.lt_or_ge j 16 with h | h
  · have : ∀ i : Fin 16, z16.getD i.val 0 = 0 := by decide
    exact this ⟨j, h⟩
  · rw [List.getD_eq_getElem?_getD, List.getElem?_eq_none (by simpa [z16] using h)]; rfl
section
variable (A B C : Nat) (key own : Int)
def kS : Nat → List Int
  | 0 => z16
  | 1 => z16.set A key
  | 2 => (z16.set A key).set B key
  | _ => ((z16.set A key).set B key).set C own
def kT : Nat → List Int
  | 0 => z16
  | 1 => z16.set C own
  | 2 => (z16.set C own).set B key
  | _ => ((z16.set C own).set B key).set A key
end
theorem zl : z16.length = 16 := rfl
theorem kST {A B C : Nat} {key own : Int} (h1 : A ≠ B) (h2 : A ≠ C) (h3 : B ≠ C) : kT A B C key own 3 = kS A B C key own 3 := by
  show ((z16.set C own).set B key).set A key = ((z16.set A key).set B key).set C own
  rw [List.set_comm own key (by omega), List.set_comm own key (by omega), List.set_comm key key (by omega)]
theorem kS_at {A B C : Nat} {key own : Int} (hA : A < 16) (hB : B < 16) (hC : C < 16) (j : Nat) : (kS A B C key own 3).getD j 0 = if C = j then own else if B = j then key else if A = j then key else 0 := by
  show (((z16.set A key).set B key).set C own).getD j 0 = _
  rw [set_at _ _ _ _ (by simpa [zl] using hC), set_at _ _ _ _ (by simpa [zl] using hB), set_at _ _ _ _ (by simpa [zl] using hA), z16_at]
/-- what a preempting of a key leaves, place by place -/
theorem tkF_at (nx key : Int) : ∀ (rs : List (Nat × Int)) (s : Rs × List Int), s.1.ks.length = 16 → s.1.f.length = 16 → s.2.length = 16 → (∀ r ∈ rs, r.1 < 16) →
    (tkF nx key s rs).1.gen = s.1.gen ∧ (tkF nx key s rs).1.h = s.1.h ∧ (tkF nx key s rs).1.k = s.1.k ∧ ∀ j, j < 16 →
      (tkF nx key s rs).1.ks.getD j 0 = (if rs.any (fun r => tkB nx key r && r.1 == j) = true then 0 else s.1.ks.getD j 0) ∧
      (tkF nx key s rs).1.f.getD j false = (if rs.any (fun r => tkB nx key r && r.1 == j) = true then true else s.1.f.getD j false) ∧
      (tkF nx key s rs).2.getD j 0 = (if rs.any (fun r => tkB nx key r && r.1 == j) = true then 5 else s.2.getD j 0)
  | [], s, _, _, _, _ => ⟨rfl, rfl, rfl, fun j _ => ⟨rfl, rfl, rfl⟩⟩
  | r :: rs, s, h1, h2, h3, h4 => by
    have hr : r.1 < 16 := h4 r (by simp)
    have hrest : ∀ r' ∈ rs, r'.1 < 16 := fun r' hr' => h4 r' (by simp [hr'])
    have e : tkF nx key s (r :: rs) = tkF nx key (if tkB nx key r = true then (away s.1 r.1, s.2.set r.1 5) else s) rs := rfl
    rw [e]
    cases ht : tkB nx key r with
    | false =>
      rw [if_neg (by decide)]
      have ih := tkF_at nx key rs s h1 h2 h3 hrest
      refine ⟨ih.1, ih.2.1, ih.2.2.1, fun j hj => ?_⟩
      have := ih.2.2.2 j hj
      simp only [List.any_cons, ht, Bool.false_and, Bool.false_or]
      exact this
    | true =>
      rw [if_pos rfl]
      have ih := tkF_at nx key rs (away s.1 r.1, s.2.set r.1 5) (by simp [away, h1]) (by simp [away, h2]) (by simp [h3]) hrest
      refine ⟨ih.1, ih.2.1, ih.2.2.1, fun j hj => ?_⟩
      have hk := ih.2.2.2 j hj
      simp only [List.any_cons, ht, Bool.true_and]
      have e1 : (away s.1 r.1).ks.getD j 0 = if r.1 = j then 0 else s.1.ks.getD j 0 := set_at _ _ _ _ (by omega)
      have e3 : (s.2.set r.1 5).getD j 0 = if r.1 = j then 5 else s.2.getD j 0 := set_at _ _ _ _ (by omega)
      have e2 : (away s.1 r.1).f.getD j false = if r.1 = j then true else s.1.f.getD j false := by
        show (s.1.f.set r.1 true).getD j false = _
        rw [List.getD_eq_getElem?_getD, List.getD_eq_getElem?_getD, List.getElem?_set]
        by_cases h : r.1 = j
        · rw [if_pos h, if_pos h, if_pos (by omega)]; rfl
        · rw [if_neg h, if_neg h]
      rw [e1, e2, e3] at hk
      by_cases h : r.1 = j
      · have hb : (r.1 == j) = true := by simpa using h
        rw [hb, Bool.true_or, if_pos rfl, if_pos rfl, if_pos rfl]
        rw [if_pos h, if_pos h, if_pos h] at hk
        refine ⟨?_, ?_, ?_⟩
        · rw [hk.1]; split <;> rfl
        · rw [hk.2.1]; split <;> rfl
        · rw [hk.2.2]; split <;> rfl
      · have hb : (r.1 == j) = false := by simpa using h
        rw [hb, Bool.false_or]
        rw [if_neg h, if_neg h, if_neg h] at hk
        exact hk
theorem regs_lt16 (ks : List Int) : ∀ r ∈ regsL ks 16, r.1 < 16 := by
  intro r hr
  simp only [regsL, List.mem_map, List.mem_filter, List.mem_range] at hr
  obtain ⟨i, ⟨h, -⟩, rfl⟩ := hr
  exact h
theorem taken_iff {A B C : Nat} {key own : Int} (hA : A < 16) (hB : B < 16) (hC : C < 16) (h1 : A ≠ B) (h2 : A ≠ C) (h3 : B ≠ C) (hk : key ≠ 0) (ho : own ≠ 0) (hd : key ≠ own) (j : Nat) (hj : j < 16) :
    (regsL (kS A B C key own 3) 16).any (fun r => tkB (C : Int) key r && r.1 == j) = decide (j = A ∨ j = B) := by
  rw [Bool.eq_iff_iff, List.any_eq_true, decide_eq_true_eq]
  constructor
  · rintro ⟨r, hr, hp⟩
    simp only [regsL, List.mem_map, List.mem_filter, List.mem_range] at hr
    obtain ⟨i, ⟨hi, hne⟩, rfl⟩ := hr
    simp only [Bool.and_eq_true, beq_iff_eq] at hp
    obtain ⟨hp, rfl⟩ := hp
    have hp' : ((i : Nat) : Int) ≠ (C : Int) ∧ (key = 0 ∨ (kS A B C key own 3).getD i 0 = key) := of_decide_eq_true hp
    have hc : ¬ C = i := fun e => hp'.1 (by omega)
    rcases hp'.2 with e | e
    · exact absurd e hk
    · rw [kS_at hA hB hC, if_neg hc] at e
      by_cases hb : B = i
      · exact .inr hb.symm
      · rw [if_neg hb] at e
        by_cases ha : A = i
        · exact .inl ha.symm
        · rw [if_neg ha] at e; exact absurd e.symm hk
  · intro h
    have hv : (kS A B C key own 3).getD j 0 = key := by
      rw [kS_at hA hB hC]
      rcases h with rfl | rfl
      · rw [if_neg (by omega), if_neg (by omega), if_pos rfl]
      · rw [if_neg (by omega), if_pos rfl]
    refine ⟨(j, (kS A B C key own 3).getD j 0), ?_, ?_⟩
    · simp only [regsL, List.mem_map, List.mem_filter, List.mem_range]
      exact ⟨j, ⟨hj, by rw [hv]; simpa using hk⟩, rfl⟩
    · simp only [Bool.and_eq_true, beq_iff_eq, and_true]
      exact decide_eq_true (p := ((j : Nat) : Int) ≠ (C : Int) ∧ (key = 0 ∨ (kS A B C key own 3).getD j 0 = key)) ⟨by omega, .inr hv⟩
theorem two_of (A B : Nat) (hA : A < 16) (hB : B < 16) (h : A ≠ B) (l : List Int) (hl : ∀ j, j < 16 → l.getD j 0 = if decide (j = A ∨ j = B) = true then 5 else 0) : (ntL l 16).length = 2 := by
  have e : (List.range 16).filter (fun i => l.getD i 0 != 0) = (List.range 16).filter (fun i => i == A || i == B) := by
    apply List.filter_congr
    intro i hi
    have hi' : i < 16 := List.mem_range.1 hi
    rw [hl i hi']
    by_cases hx : i = A ∨ i = B
    · rw [if_pos (decide_eq_true hx)]
      rcases hx with rfl | rfl <;> simp
    · rw [if_neg (by simpa using hx)]
      have : (i == A) = false ∧ (i == B) = false := by simpa using hx
      simp [this]
  unfold ntL
  rw [List.length_map, e]
  have : ∀ a b : Fin 16, a ≠ b → ((List.range 16).filter (fun i => i == a.val || i == b.val)).length = 2 := by decide
  exact this ⟨A, hA⟩ ⟨B, hB⟩ (fun e => h (by simpa using congrArg Fin.val e))
theorem inB_kS {A B C : Nat} {key own : Int} (hA : A < 16) (hB : B < 16) (hC : C < 16) (h2 : A ≠ C) (h1 : A ≠ B) : inB (kS A B C key own 3) key = true := by
  have hv : (kS A B C key own 3).getD A 0 = key := by rw [kS_at hA hB hC, if_neg (by omega), if_neg (by omega), if_pos rfl]
  have hl : (kS A B C key own 3).length = 16 := by simp [kS, zl]
  unfold inB
  rw [List.any_eq_true]
  refine ⟨(kS A B C key own 3)[A], List.getElem_mem _, ?_⟩
  rw [List.getD_eq_getElem?_getD, List.getElem?_eq_getElem (by omega)] at hv
  have hv' : (kS A B C key own 3)[A] = key := hv
  rw [hv']
  simp
theorem pre_all {A B C : Nat} {key own : Int} (hA : A < 16) (hB : B < 16) (hC : C < 16) (h1 : A ≠ B) (h2 : A ≠ C) (h3 : B ≠ C) (hk : key ≠ 0) (ho : own ≠ 0) (hd : key ≠ own) :
    ∃ m4 L, doM (oSt 3 (kS A B C key own 3)) (C : Int) ⟨4, own, key, 1⟩ = ((0, 0, 0, 0), m4, L) ∧ L.length = 2 ∧ keyM m4 (A : Int) = 0 ∧ keyM m4 (B : Int) = 0 ∧ keyM m4 (C : Int) = own ∧
      mayM m4 (A : Int) 2 = false ∧ mayM m4 (B : Int) 2 = false ∧ mayM m4 (C : Int) 2 = true ∧ mayM m4 (A : Int) 1 = true := by
  have hl : (kS A B C key own 3).length = 16 := by simp [kS, zl]
  have hC' : (kS A B C key own 3).getD C 0 = own := by rw [kS_at hA hB hC, if_pos rfl]
  obtain ⟨t1, t2, t3, t4⟩ := tkF_at (C : Int) key (regsL (kS A B C key own 3) 16) (oSt 3 (kS A B C key own 3), z16) hl (by simp [oSt]) rfl (regs_lt16 _)
  have hD : doM (oSt 3 (kS A B C key own 3)) (C : Int) ⟨4, own, key, 1⟩ = ((0, 0, 0, 0), bump (tkF (C : Int) key (oSt 3 (kS A B C key own 3), z16) (regsL (kS A B C key own 3) 16)).1, ntL (tkF (C : Int) key (oSt 3 (kS A B C key own 3), z16) (regsL (kS A B C key own 3) 16)).2 16) := by
    unfold doM
    rw [if_neg (by rw [nxB_nat hC]; decide), if_neg (show ¬ (4 : Int) = 0 by decide), if_neg (show ¬ (4 : Int) = 6 by decide), if_pos (show (1 : Int) ≤ 4 ∧ (4 : Int) ≤ 4 by decide), Int.toNat_natCast]
    rw [if_neg (by
      rintro (e | e)
      · unfold rg at e
        rw [show (oSt 3 (kS A B C key own 3)).ks = kS A B C key own 3 from rfl, hC'] at e
        simp at e
        exact ho e
      · exact e (show own = (kS A B C key own 3).getD C 0 from hC'.symm))]
    rw [if_neg (show ¬ (4 : Int) = 1 by decide), if_neg (show ¬ (4 : Int) = 2 by decide), if_neg (show ¬ (4 : Int) = 3 by decide)]
    unfold preM
    rw [if_neg (by show ¬ tyB 1 = false; decide), if_neg (by show ¬ hwB (oSt 3 (kS A B C key own 3)) key = true; unfold hwB; rw [if_pos (show (oSt 3 (kS A B C key own 3)).k = 0 from rfl)]; decide), if_neg hk, if_neg (by show ¬ inB (kS A B C key own 3) key = false; rw [inB_kS hA hB hC h2 h1]; decide)]
    rfl
  generalize hT : tkF (C : Int) key (oSt 3 (kS A B C key own 3), z16) (regsL (kS A B C key own 3) 16) = T at *
  have at_ : ∀ j, j < 16 → T.1.ks.getD j 0 = (if decide (j = A ∨ j = B) = true then 0 else (kS A B C key own 3).getD j 0) ∧ T.1.f.getD j false = (if decide (j = A ∨ j = B) = true then true else false) ∧ T.2.getD j 0 = (if decide (j = A ∨ j = B) = true then 5 else 0) := fun j hj => by
    have := t4 j hj
    rw [taken_iff hA hB hC h1 h2 h3 hk ho hd j hj] at this
    refine ⟨this.1, ?_, ?_⟩
    · rw [this.2.1]
      have : (oSt 3 (kS A B C key own 3)).f.getD j false = false := by
        show (List.replicate 16 false).getD j false = false
        rw [List.getD_eq_getElem?_getD, List.getElem?_replicate]; split <;> rfl
      rw [this]
    · rw [this.2.2, z16_at]
  refine ⟨bump T.1, ntL T.2 16, hD, two_of A B hA hB h1 T.2 (fun j hj => (at_ j hj).2.2), ?_⟩
  have kA : keyM (bump T.1) (A : Int) = 0 := by
    unfold keyM; rw [if_pos (nxB_nat hA), Int.toNat_natCast]; show T.1.ks.getD A 0 = 0
    rw [(at_ A hA).1, if_pos (by simp)]
  have kB : keyM (bump T.1) (B : Int) = 0 := by
    unfold keyM; rw [if_pos (nxB_nat hB), Int.toNat_natCast]; show T.1.ks.getD B 0 = 0
    rw [(at_ B hB).1, if_pos (by simp)]
  have kC : keyM (bump T.1) (C : Int) = own := by
    unfold keyM; rw [if_pos (nxB_nat hC), Int.toNat_natCast]; show T.1.ks.getD C 0 = own
    rw [(at_ C hC).1, if_neg (by simp; omega), hC']
  have fA : fenM (bump T.1) (A : Int) = true := by
    unfold fenM; rw [if_pos (nxB_nat hA), Int.toNat_natCast]; show T.1.f.getD A false = true
    rw [(at_ A hA).2.1, if_pos (by simp)]
  have fB : fenM (bump T.1) (B : Int) = true := by
    unfold fenM; rw [if_pos (nxB_nat hB), Int.toNat_natCast]; show T.1.f.getD B false = true
    rw [(at_ B hB).2.1, if_pos (by simp)]
  have fC : fenM (bump T.1) (C : Int) = false := by
    unfold fenM; rw [if_pos (nxB_nat hC), Int.toNat_natCast]; show T.1.f.getD C false = false
    rw [(at_ C hC).2.1, if_neg (by simp; omega)]
  have hk0 : (bump T.1).k = 0 := t3
  refine ⟨kA, kB, kC, ?_, ?_, ?_, ?_⟩
  · unfold mayM; rw [if_neg (by rw [nxB_nat hA]; decide), if_neg (by decide), if_pos ⟨rfl, fA⟩]
  · unfold mayM; rw [if_neg (by rw [nxB_nat hB]; decide), if_neg (by decide), if_pos ⟨rfl, fB⟩]
  · unfold mayM; rw [if_neg (by rw [nxB_nat hC]; decide), if_neg (by decide), if_neg (by rw [fC]; decide), if_pos (.inl hk0)]
  · unfold mayM; rw [if_neg (by rw [nxB_nat hA]; decide), if_neg (by decide), if_neg (fun h => absurd h.1 (by decide)), if_pos (.inl hk0)]
end Go.Proofs.Ytlopkfenbeahgaa

