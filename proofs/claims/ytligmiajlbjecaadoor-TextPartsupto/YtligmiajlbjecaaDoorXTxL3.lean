/- The walk of TextBytes. -/
import Derived.Test.YtligmiajlbjecaaDoorXTxL2
import Derived.Test.YtligmiajlbjecaaDoorXTx17
import Derived.BigQuiet
namespace Go.Proofs.YtligmiajlbjecaaDoor
open Go.RowKit
set_option linter.unusedVariables false
set_option linter.unusedSimpArgs false
set_option maxRecDepth 8000

theorem strsC18 {w : World} {base : Nat} {v : Value} {l : List (BitVec 8)} (h : Own w base v l) : ∃ a len cap, v = .slice a len cap ∧ ∀ X, Below w.heap.size w X → (convert 23 9 (.slice a len cap)).run Tryd.prog X = .ok (.string (str l)) X := by
  obtain ⟨a, cap, hv, _, _, hr, _, _⟩ := h.open
  exact ⟨a, _, cap, hv, fun X hX => (hr.later hX).str _ _ rfl⟩
theorem row_fr18 {w : World} {a : Option Addr} {l m : List (BitVec 8)} (h : Row w a (l ++ m)) : Row w a l := by
  rcases h with h | ⟨b, off, rfl, hc⟩
  · exact .inl (List.append_eq_nil_iff.1 h).1
  · refine .inr ⟨b, off, rfl, fun i hi => ?_⟩
    rw [hc i (by rw [List.length_append]; omega)]
    unfold bt
    rw [List.getD, List.getD, List.getElem?_append_left hi]
theorem spoil18 {w : World} {base g c len : Nat} {l : List (BitVec 8)} (ho : Own w base (.slice (some ⟨g, 0, none⟩) (len + 1) c) l) (hlen : len ≤ 140737488351232) (hc : len + 1 ≤ c) :
    Calls Tryd.prog 18 #[.slice (some ⟨g, 0, none⟩) len c] w fun e w' => e = .returned (.tuple #[]) ∧ w.grownBy w' (some g) := by
  obtain ⟨h1, h2 | ⟨g', cap, cur, hv, hb, hh, hc', hm, hs, ht⟩⟩ := ho
  · simp at h2
  · simp only [Value.slice.injEq, Option.some.injEq, Addr.mk.injEq] at hv
    obtain ⟨⟨rfl, _, _⟩, _, rfl⟩ := hv
    exact Spoil_some g 0 len c 5 cur.toList w (by unfold Blk; simpa using hh) (by simp; omega) (by simp; omega) (by omega) hlen
theorem own_past18 {w w' : World} {base g : Nat} {v : Value} {l : List (BitVec 8)} (h : Own w base v l) (hg : w.grownBy w' (some g)) (hb : g < base) : Own w' base v l :=
  h.turned (turned_grown (R := fun k => k = g) hg (fun k e => by cases e; rfl)) (fun k hk e => by have := (own_block h) k hk; omega)
theorem pri_past18 {K : Kd Pr} {w0 w w' : World} {g : Nat} {a : Option Addr} {c : Nat} {l : List Pr} (h : PrI K w0 w (.slice a l.length c) l) (hK : K.Ok) (hg : w.grownBy w' (some g)) (hb : g < w0.heap.size) : GAt K w' (.slice a l.length c) l := by
  obtain ⟨⟨q, hq, hx⟩, -⟩ := h
  exact (hq.turned (turned_grown (R := fun k => k = g) hg (fun k e => by cases e; rfl)) (fun k hk e => by have := hx k hk; omega)).at hK
theorem dist_of {l : List Pr} (h : ∀ i (hi : i < l.length), ∀ q ∈ l.take i, ¬ q.1 = l[i].1) : dist [] l = true := by
  have key : ∀ (l out : List Pr), (∀ i (hi : i < l.length), ∀ q ∈ out ++ l.take i, ¬ q.1 = l[i].1) → dist out l = true := by
    intro l
    induction l with
    | nil => intro out _; rfl
    | cons p l ih =>
      intro out h
      unfold dist
      rw [Bool.and_eq_true]
      constructor
      · rw [Bool.not_eq_true', List.any_eq_false]
        intro q hq
        have := h 0 (by simp) q (by simpa using hq)
        simpa using this
      · refine ih (out ++ [p]) (fun i hi q hq => ?_)
        have := h (i + 1) (by simpa using hi) q (by simpa using hq)
        simpa using this
  exact key l [] (by simpa using h)
theorem gt_again {l : List Pr} {x : List (BitVec 8)} (h : puR18 l = (x, 0)) (hd : dist [] l = true) : gtR (us x) = (l, 0) := by
  obtain ⟨h1, h2⟩ := gtR_back h hd
  rw [h2, us_bvs]; exact h1
theorem pu_again {l : List (BitVec 8)} {p : List Pr} (h : gtR (us l) = (p, 0)) : puR18 p = (l, 0) := by
  have := gtR_there h
  rw [bvs_us] at this; exact this
set_option maxHeartbeats 16000000 in
theorem textBytes_walk (a0 : Option Addr) (len0 cap0 : Nat) (l : List Pr) (a1 : Option Addr) (len1 cap1 : Nat) (l1 : List (BitVec 8)) (w : World) (hP : PowT w) (B0 : PrArg w a0 len0 cap0 l) (B1 : Arg 140737488351232 w a1 len1 cap1 l1) :
    Calls Tryd.prog 3 #[.slice a0 len0 cap0, .slice a1 len1 cap1] w fun e w' => e = .returned (.bool true) ∧ Below w.heap.size w w' := by
  obtain ⟨hlen0, hA0, hf0, hs0⟩ := B0
  subst hlen0
  have HA : Hid _ := And.intro hA0 (And.intro hf0 hs0)
  have HP : Hid _ := hP
  have hlen1 := B1.len_eq
  subst hlen1
  have hq1 : l1.length ≤ 140737488351232 := Nat.le_trans B1.le B1.bound
  have HL : Hid _ := Lent_any a1 l1.length cap1 l1 w B1
  have H0 : Hid _ := And.intro B1.row (And.intro hq1 (And.intro B1.le B1.isNil))
  clear hA0 hf0 hs0 hP B1 hq1
  obtain ⟨nl, hnl⟩ : ∃ nl, nl = l.length := ⟨_, rfl⟩
  rw [← hnl]
  have HNL : Hid _ := hnl
  clear hnl
  have hnlb : nl ≤ 140737488355328 := by have := HA.out.2.1; have := HNL.out; omega
  obtain ⟨n1, hn1⟩ : ∃ n1, n1 = l1.length := ⟨_, rfl⟩
  rw [← hn1] at HL ⊢
  have HN1 : Hid _ := hn1
  clear hn1
  go_enter Tryd.func3, Tryd.ntmps3
  go_wp2_with fail
  refine (Calls.mono (HL.out)) ?_
  rintro e w1 ⟨g, c, rfl, oL, hgb, hc1, -, b1⟩
  clear HL
  obtain ⟨aL, cL, eL, -, -, rL, -, -⟩ := oL.open
  simp only [Value.slice.injEq] at eL
  obtain ⟨rfl, -, -⟩ := eL
  have hg1 : g < w1.heap.size := by have := (World.ownsRow.lt oL g rfl).2; exact this
  have H1 : Hid _ := And.intro oL (And.intro rL (And.intro hgb (And.intro hc1 (And.intro hg1 b1))))
  clear oL rL hgb hc1 hg1 b1
  have HG0 := given18_any a0 cap0 l w1 (gat_later H1.out.2.2.2.2.2 HA.out.1) HA.out.2.1
  rw [← HNL.out] at HG0
  have HG : Hid _ := HG0
  clear HG0
  go_wp2_with fail
  refine (Calls.mono (HG.out)) ?_
  rintro e w2 ⟨v2, rfl, I2⟩
  clear HG
  obtain ⟨a2, c2, ez, hA2⟩ := I2.at kPr_ok
  subst ez
  have H2 : Hid _ := I2.bel
  have HK0 := tPut_any a2 c2 l w2 hA2 (by have := HNL.out; omega)
  rw [← HNL.out] at HK0 ⊢
  have HK : Hid _ := HK0
  clear I2 hA2 HK0
  go_wp2_with fail
  refine (Calls.mono (HK.out)) ?_
  rintro e w3 ⟨z3, rfl, o3, b3⟩
  clear HK
  have H3 : Hid _ := And.intro (below_then H2.out b3) (And.intro H2.out.size o3)
  clear b3 o3 H2
  have HK0 := rPut_any a0 cap0 l w3 (gat_later (below_then H1.out.2.2.2.2.2 H3.out.1) HA.out.1) (by have := HNL.out; omega) HA.out.2.2
  rw [← HNL.out] at HK0
  have HK : Hid _ := HK0
  clear HK0
  go_wp2_with fail
  refine (Calls.mono (HK.out)) ?_
  rintro e w4 ⟨z4, rfl, o4, b4⟩
  clear HK
  have H4 : Hid _ := And.intro (below_then H3.out.1 b4) (And.intro H3.out.2.1 (And.intro (Own.later H3.out.2.2 b4) o4))
  clear b4 o4 H3
  have HK0 := tGet_any (some ⟨g, 0, none⟩) c l1 w4 (by have := H1.out.2.2.2.1; have := HN1.out; omega) (row_fr18 (H1.out.2.1.later H4.out.1)) (fun h => by cases h) H0.out.2.1
  rw [← HN1.out] at HK0
  have HK : Hid _ := HK0
  clear HK0
  go_wp2_with fail
  refine (Calls.mono (HK.out)) ?_
  rintro e w5 ⟨v5, rfl, I5⟩
  clear HK
  obtain ⟨a5, c5, ez, hA5⟩ := I5.at kPr_ok
  subst ez
  have H5 : Hid _ := And.intro (below_then H4.out.1 I5.bel) (And.intro H4.out.2.1 (And.intro (Own.later H4.out.2.2.1 I5.bel) (And.intro (Own.later H4.out.2.2.2 I5.bel) (And.intro H4.out.1.size I5))))
  clear I5 hA5 H4
  have HK0 := rGet_any a1 cap1 l1 w5 H0.out.2.2.1 (H0.out.1.later (below_then H1.out.2.2.2.2.2 H5.out.1)) H0.out.2.2.2 H0.out.2.1
  rw [← HN1.out] at HK0
  have HK : Hid _ := HK0
  clear HK0
  go_wp2_with fail
  refine (Calls.mono (HK.out)) ?_
  rintro e w6 ⟨v6, rfl, I6⟩
  clear HK
  obtain ⟨a6, c6, ez, hA6⟩ := I6.at kRp_ok
  subst ez
  have H6 : Hid _ := And.intro (below_then H5.out.1 I6.bel) (And.intro H5.out.2.1 (And.intro (Own.later H5.out.2.2.1 I6.bel) (And.intro (Own.later H5.out.2.2.2.1 I6.bel) (And.intro (Nat.le_trans H5.out.2.2.2.2.1 (Nat.le_refl _)) (And.intro (H5.out.2.2.2.2.2.later I6.bel) (And.intro H5.out.1.size I6))))))
  clear I6 hA6 H5
  obtain ⟨a7, n7, c7, ez, hs7⟩ := strsC18 H6.out.2.2.1
  obtain ⟨a8, n8, c8, ez8, hs8⟩ := strsC18 H6.out.2.2.2.1
  subst ez ez8
  have hq := gtR_few (us l1)
  have HB1 : Hid _ := fun p (h : gtR (us l1) = (p, 0)) => pu_again h
  have HB2 : Hid _ := fun x (h : puR18 l = (x, 0)) => gt_again h
  have HB3 : Hid _ := fun x (h : puR18 l = (x, 0)) => (puR18_facts h).1
  obtain ⟨P, hPq⟩ : ∃ P, gtR (us l1) = P := ⟨_, rfl⟩
  obtain ⟨Q, hQq⟩ : ∃ Q, puR18 l = Q := ⟨_, rfl⟩
  obtain ⟨p, EP⟩ := P
  obtain ⟨x, EX⟩ := Q
  rw [hPq] at H6 hq
  rw [hQq] at H6 hs7 hs8
  rw [hPq, hQq]
  rw [hPq] at HB1
  rw [hQq] at HB2 HB3
  simp only at H6 hq hs7 hs8 ⊢
  clear hPq hQq
  obtain ⟨np, hnp⟩ : ∃ np, np = p.length := ⟨_, rfl⟩
  rw [← hnp] at hq ⊢
  have HNP : Hid _ := hnp
  clear hnp
  have H6b : Hid _ := And.intro (below_then H1.out.2.2.2.2.2 H6.out.1) (And.intro (show GAt kPr w6 (.slice a5 p.length c5) p from by obtain ⟨q, h1, -⟩ := H6.out.2.2.2.2.2.1.own; exact h1.at kPr_ok) (show GAt kRp w6 (.slice a6 p.length c6) p from by obtain ⟨q, h1, -⟩ := H6.out.2.2.2.2.2.2.2.own; exact h1.at kRp_ok))
  have HKp : Hid (∀ X, Below w6.heap.size w6 X → _) := fun X (bX : Below w6.heap.size w6 X) => Kept_yes g l1.length c a1 cap1 l1 X rfl (by have := H1.out.2.2.2.1; have := HN1.out; omega) H0.out.2.1 (H1.out.2.1.later (below_then H6.out.1 bX)) (H0.out.1.later (below_then H6b.out.1 bX))
  rw [← HN1.out] at HKp
  have hc7 := hs7 w6 (Below.refl _ _)
  have hc8 := hs8 w6 (Below.refl _ _)
  clear hs7 hs8
  have HK0 := taken18_any a5 c5 p w6 H6b.out.2.1 (by have := HNP.out; omega)
  rw [← HNP.out] at HK0
  have HK : Hid _ := HK0
  clear HK0
  go_wp2_with fail
  refine (Calls.mono (HK.out)) ?_
  rintro e x1 ⟨u1, rfl, J1⟩
  clear HK hc7 hc8
  obtain ⟨aT, cT, ez, hAT⟩ := J1.at kRp_ok
  subst ez
  have HK0 := samePr_yes aT a6 cT c6 p x1 hAT (gat_later J1.bel H6b.out.2.2) (by have := HNP.out; omega)
  rw [← HNP.out] at HK0 ⊢
  have HK : Hid _ := HK0
  have HX1 : Hid _ := J1.bel
  clear HK0 J1 hAT
  go_wp2_with fail
  refine (Calls.mono (HK.out)) ?_
  rintro e x2 ⟨rfl, hb2⟩
  have HX2 : Hid _ := below_then HX1.out hb2
  clear HK hb2 HX1
  have HK : Hid _ := HKp.out x2 HX2.out
  go_wp2_with fail
  refine (Calls.mono (HK.out)) ?_
  rintro e _ ⟨rfl, hx9⟩
  rw [hx9]
  clear hx9 HK HKp
  have oS := Own.later (Own.later H1.out.1 H6.out.1) HX2.out
  have HS : Hid _ := spoil18 oS (by have := H0.out.2.1; have := HN1.out; omega) (by have := H1.out.2.2.2.1; omega)
  go_wp2_with fail
  refine (Calls.mono (HS.out)) ?_
  rintro e w7 ⟨rfl, hg7⟩
  clear HS oS
  skip
  have H7 : Hid _ := And.intro ((below_then H6b.out.1 HX2.out).grown hg7 (below_then H6b.out.1 HX2.out).size (fun k e => by cases e; exact H1.out.2.2.1)) (And.intro (own_past18 (Own.later H6.out.2.2.1 HX2.out) hg7 (by have := H1.out.2.2.2.2.1; have := H6.out.2.1; omega)) (And.intro (pri_past18 (H6.out.2.2.2.2.2.1.later HX2.out) kPr_ok hg7 (by have := H1.out.2.2.2.2.1; have := H6.out.2.2.2.2.1; omega)) (pri_past18 (H6.out.2.2.2.2.2.2.2.later HX2.out) kRp_ok hg7 (by have := H1.out.2.2.2.2.1; have := H6.out.2.2.2.2.2.2.1; omega))))
  clear hg7 H6 H6b HX2 H1
  have HK0 := taken18_any a5 c5 p w7 H7.out.2.2.1 (by have := HNP.out; omega)
  rw [← HNP.out] at HK0
  have HK : Hid _ := HK0
  clear HK0
  go_wp2_with fail
  refine (Calls.mono (HK.out)) ?_
  rintro e y1 ⟨u1, rfl, J1⟩
  clear HK
  obtain ⟨aU, cU, ez, hAU⟩ := J1.at kRp_ok
  subst ez
  have HK0 := samePr_yes aU a6 cU c6 p y1 hAU (gat_later J1.bel H7.out.2.2.2) (by have := HNP.out; omega)
  rw [← HNP.out] at HK0 ⊢
  have HK : Hid _ := HK0
  have HY1 : Hid _ := J1.bel
  clear HK0 J1 hAU
  go_wp2_with fail
  refine (Calls.mono (HK.out)) ?_
  rintro e y2 ⟨rfl, hb2⟩
  have HY2 : Hid _ := below_then HY1.out hb2
  clear HK hb2 HY1
  have H8 : Hid _ := And.intro (below_then H7.out.1 HY2.out) (And.intro (Own.later H7.out.2.1 HY2.out) (gat_later HY2.out H7.out.2.2.2))
  clear H7 HY2
  by_cases hPz : EP = 0
  · subst hPz
    have hb1 := HB1.out p rfl
    have HG0 := given18_any a6 c6 p y2 H8.out.2.2 (by have := HNP.out; omega)
    rw [← HNP.out] at HG0
    have HG : Hid _ := HG0
    clear HG0
    go_wp2_with fail
    refine (Calls.mono (HG.out)) ?_
    rintro e q1 ⟨vq, rfl, Iq⟩
    clear HG
    obtain ⟨aq, cq, ez, hAq⟩ := Iq.at kPr_ok
    subst ez
    have HK0 := tPut_any aq cq p q1 hAq (by have := HNP.out; omega)
    rw [hb1] at HK0
    rw [← HNP.out] at HK0 ⊢
    have HK : Hid _ := HK0
    have HQ1 : Hid _ := Iq.bel
    clear HK0 hb1 Iq hAq
    go_wp2_with fail
    refine (Calls.mono (HK.out)) ?_
    rintro e q2 ⟨zq, rfl, oq, bq⟩
    clear HK
    obtain ⟨az, nz, cz, ezq, hsq⟩ := strsC18 oq
    subst ezq
    have HQ2 : Hid _ := below_then HQ1.out bq
    have hcq := hsq q2 (Below.refl _ _)
    have hcb : (convert 23 9 (.slice a1 n1 cap1)).run Tryd.prog q2 = .ok (.string (str l1)) q2 := (H0.out.1.later (below_then H8.out.1 HQ2.out)).str _ _ HN1.out.symm
    clear oq bq hsq HQ1
    generalize str l1 = T1 at *
    have HW : Hid _ := And.intro (below_then H8.out.1 HQ2.out) (Own.later H8.out.2.1 HQ2.out)
    clear H8 HQ2 HB1 H0
    by_cases hE : EX = 0
    · subst hE
      have hx3 := HB3.out x rfl
      have HB2x : Hid _ := HB2.out x rfl
      clear HB2 HB3
      go_wp2_with fail
      go_loopw [16] (fun iv wr => ∃ i : Nat, iv = .int .i64 (i : Int) ∧ i ≤ l.length ∧ Below q2.heap.size q2 wr ∧ ∀ i' (hi : i' < l.length), i' < i → ∀ q ∈ l.take i', ¬ q.1 = l[i'].1) (fun iv _ => l.length - (intOf iv).toNat)
      case atStart => exact ⟨0, rfl, Nat.zero_le _, Below.refl _ _, fun i' _ h => by omega⟩
      case round =>
        obtain ⟨i, rfl, hi, hB, hD⟩ := hrel
        have hnl := HNL.out
        by_cases hil : i < l.length
        · have q1 : (i : Int) < (nl : Int) := by omega
          have q1n : i < nl := by omega
          have w5 : IntKind.i64.wrap ((i : Int) + 1) = (i : Int) + 1 := by rw [IntKind.wrap_i64]; omega
          have HD : Hid _ := And.intro hD (And.intro hil hB)
          clear hD hB hi hnl
          go_wp2_with fail
          go_loopw [17] (fun kv wk => ∃ k : Nat, kv = .int .i64 (k : Int) ∧ k ≤ i ∧ Below wr.heap.size wr wk ∧ ∀ q ∈ l.take k, ¬ q.1 = (l[i]'hil).1) (fun kv _ => i - (intOf kv).toNat)
          case atStart => exact ⟨0, rfl, Nat.zero_le _, Below.refl _ _, fun q h => by simp at h⟩
          case round =>
            obtain ⟨k, rfl, hk, hBk, hN⟩ := hrel
            by_cases hki : k < i
            · have r1 : (k : Int) < (i : Int) := by omega
              have r1n : k < i := hki
              have r2n : k < nl := by omega
              have r2 : (k : Int) < (nl : Int) := by omega
              have w6 : IntKind.i64.wrap ((k : Int) + 1) = (k : Int) + 1 := by rw [IntKind.wrap_i64]; omega
              have HBW : Hid _ := below_then HW.out.1 (below_then HD.out.2.2 hBk)
              have hkl : k < l.length := by have := HD.out.2.1; omega
              obtain ⟨b, off, rfl, hci⟩ := (gat_later HBW.out HA.out.1).each kRp_ok i HD.out.2.1
              obtain ⟨b2, off2, e2, hck⟩ := (gat_later HBW.out HA.out.1).each kRp_ok k hkl
              cases e2
              have hc0 := hci 0 (by simp [kRp])
              have hc1 := hck 0 (by simp [kRp])
              simp only [kRp, List.getElem?_cons_zero, Nat.add_zero] at hc0 hc1
              have hsn : l.take (k + 1) = l.take k ++ [l[k]] := List.take_succ_eq_append_getElem hkl
              clear hci hck
              obtain ⟨yi, hyi⟩ : ∃ yi, yi = l[i]'hil := ⟨_, rfl⟩
              obtain ⟨yk, hyk⟩ : ∃ yk, yk = l[k]'hkl := ⟨_, rfl⟩
              rw [← hyi] at hc0 hN
              rw [← hyk] at hc1 hsn
              have he := beq_toList yi.1 yk.1
              have HG : Hid _ := And.intro hsn (And.intro hN (And.intro hyi (And.intro hki hBk)))
              clear hsn hN hyi hyk hki hBk hk hkl
              by_cases hq : yi.1 = yk.1
              · rw [decide_eq_true hq] at he
                clear hq
                have HPK : Hid (∀ m, Below w.heap.size w (wr.drewN m)) := (fun m => below_then HBW.out (⟨rfl, rfl, rfl, Nat.le_refl _, fun _ _ => rfl⟩ : Below wr.heap.size wr (wr.drewN m)) : ∀ m, Below w.heap.size w (wr.drewN m))
                clear HBW HG HD HW
                go_wp2_with fail
                go_quiet (fail)
                go_wp2_with fail
                refine (Calls.mono (known18_any _ (PowT.later HP.out (HPK.out _)))) ?_
                rintro e w9 ⟨rfl, b9⟩
                have F : Hid _ := below_then (HPK.out _) b9
                clear b9 HPK
                go_wp2
                go_ret
                exact ⟨rfl, F.out⟩
              · rw [decide_eq_false hq] at he
                have F2 : Hid (∀ q ∈ l.take (k + 1), ¬ q.1 = (l[i]'hil).1) := (fun q hm => by rw [HG.out.1] at hm; rw [← HG.out.2.2.1]; rcases List.mem_append.1 hm with hm | hm; exact HG.out.2.1 q hm; rw [List.mem_singleton.1 hm]; exact fun e => hq e.symm : ∀ q ∈ l.take (k + 1), ¬ q.1 = (l[i]'hil).1)
                have F : Hid _ := HG.out.2.2.2
                clear hq HG HBW
                go_wp2_with fail
                go_quiet (fail)
                go_wp2
                go_roundw
                case rel => exact ⟨k + 1, by first | rfl | trivial | go_num, F.out.1, by first | exact F.out.2 | exact F.out.2.trans ⟨rfl, rfl, rfl, Nat.le_refl _, fun _ _ => rfl⟩, F2.out⟩
                case measure => have := F.out.1; simp [intOf]; omega
            · obtain rfl : k = i := by omega
              have F : Hid (∀ i' (hi : i' < l.length), i' < k + 1 → ∀ q ∈ l.take i', ¬ q.1 = l[i'].1) := (fun i' hi h => by by_cases e : i' = k; (subst e; exact hN); exact HD.out.1 i' hi (by omega) : ∀ i' (hi : i' < l.length), i' < k + 1 → ∀ q ∈ l.take i', ¬ q.1 = l[i'].1)
              have F2 : Hid _ := And.intro HD.out.2.1 (below_then HD.out.2.2 hBk)
              clear hN hBk HD hki hk
              go_wp2
              go_roundw
              case rel => exact ⟨k + 1, by first | rfl | trivial | go_num, F2.out.1, F2.out.2, F.out⟩
              case measure => have := F2.out.1; simp [intOf]; omega
        · have ei : i = nl := by omega
          subst ei
          have hd : dist [] l = true := dist_of (fun i' hi' => hD i' hi' (by omega))
          have hgt := HB2x.out hd
          have t1 : ¬ ((i : Int) < (i : Int)) := by omega
          have oX := Own.later HW.out.2 hB
          obtain ⟨aX, cX, eX, hXc, -, hrX, hnX, -⟩ := oX.open
          simp only [Value.slice.injEq] at eX
          obtain ⟨rfl, rfl, rfl⟩ := eX
          have HK0 := tGet_any a7 c7 x wr hXc hrX hnX (by omega)
          rw [hgt] at HK0
          have HK : Hid _ := HK0
          have FB : Hid _ := below_then HW.out.1 hB
          clear HK0 hXc hrX hnX oX hgt hd hD hB hil HW HB2x hnl hi
          obtain ⟨nx, hnx⟩ : ∃ nx, nx = x.length := ⟨_, rfl⟩
          rw [← hnx] at HK ⊢
          clear hnx hx3
          go_wp2_with fail
          refine (Calls.mono (HK.out)) ?_
          rintro e w8 ⟨v8, rfl, I8⟩
          clear HK
          obtain ⟨aZ, cZ, eZ, hAZ⟩ := I8.at kPr_ok
          subst eZ
          have H9 : Hid _ := And.intro (below_then FB.out I8.bel) hAZ
          clear I8 hAZ FB
          have HK0 := taken18_any aZ cZ l w8 H9.out.2 (by have := HA.out.2.1; omega)
          rw [← HNL.out] at HK0 ⊢
          have HK : Hid _ := HK0
          clear HK0
          go_wp2_with fail
          refine (Calls.mono (HK.out)) ?_
          rintro e u1 ⟨v1, rfl, J1⟩
          clear HK
          obtain ⟨aV, cV, ez, hAV⟩ := J1.at kRp_ok
          subst ez
          have HK0 := samePr_yes aV a0 cV cap0 l u1 hAV (gat_later (below_then H9.out.1 J1.bel) HA.out.1) (by have := HNL.out; omega)
          rw [← HNL.out] at HK0 ⊢
          have HK : Hid _ := HK0
          have HZ : Hid _ := below_then H9.out.1 J1.bel
          clear HK0 J1 hAV H9
          go_wp2_with fail
          refine (Calls.mono (HK.out)) ?_
          rintro e u2 ⟨rfl, hb2⟩
          have HZ2 : Hid _ := below_then HZ.out hb2
          clear HK hb2 HZ
          have FK : Hid _ := HZ2.out
          clear HZ2
          go_wp2_with fail
          refine (Calls.mono (known18_any u2 (PowT.later HP.out FK.out))) ?_
          rintro e w9 ⟨rfl, b9⟩
          have F : Hid _ := below_then FK.out b9
          clear b9 FK
          go_wp2
          go_ret
          exact ⟨rfl, F.out⟩
    · have dE : (EX != 0) = true := by simpa using hE
      have FK : Hid _ := HW.out.1
      clear HW hE HB2 HB3 HNL
      go_wp2_with fail
      refine (Calls.mono (known18_any q2 (PowT.later HP.out FK.out))) ?_
      rintro e w9 ⟨rfl, b9⟩
      have F : Hid _ := below_then FK.out b9
      clear b9 FK
      go_wp2
      go_ret
      exact ⟨rfl, F.out⟩
  · have dP : (EP == 0) = false := by simpa using hPz
    clear hPz
    have HW : Hid _ := And.intro (H8.out.1) (H8.out.2.1)
    clear H8 HB1 H0
    by_cases hE : EX = 0
    · subst hE
      have hx3 := HB3.out x rfl
      have HB2x : Hid _ := HB2.out x rfl
      clear HB2 HB3
      go_wp2_with fail
      go_loopw [16] (fun iv wr => ∃ i : Nat, iv = .int .i64 (i : Int) ∧ i ≤ l.length ∧ Below y2.heap.size y2 wr ∧ ∀ i' (hi : i' < l.length), i' < i → ∀ q ∈ l.take i', ¬ q.1 = l[i'].1) (fun iv _ => l.length - (intOf iv).toNat)
      case atStart => exact ⟨0, rfl, Nat.zero_le _, Below.refl _ _, fun i' _ h => by omega⟩
      case round =>
        obtain ⟨i, rfl, hi, hB, hD⟩ := hrel
        have hnl := HNL.out
        by_cases hil : i < l.length
        · have q1 : (i : Int) < (nl : Int) := by omega
          have q1n : i < nl := by omega
          have w5 : IntKind.i64.wrap ((i : Int) + 1) = (i : Int) + 1 := by rw [IntKind.wrap_i64]; omega
          have HD : Hid _ := And.intro hD (And.intro hil hB)
          clear hD hB hi hnl
          go_wp2_with fail
          go_loopw [17] (fun kv wk => ∃ k : Nat, kv = .int .i64 (k : Int) ∧ k ≤ i ∧ Below wr.heap.size wr wk ∧ ∀ q ∈ l.take k, ¬ q.1 = (l[i]'hil).1) (fun kv _ => i - (intOf kv).toNat)
          case atStart => exact ⟨0, rfl, Nat.zero_le _, Below.refl _ _, fun q h => by simp at h⟩
          case round =>
            obtain ⟨k, rfl, hk, hBk, hN⟩ := hrel
            by_cases hki : k < i
            · have r1 : (k : Int) < (i : Int) := by omega
              have r1n : k < i := hki
              have r2n : k < nl := by omega
              have r2 : (k : Int) < (nl : Int) := by omega
              have w6 : IntKind.i64.wrap ((k : Int) + 1) = (k : Int) + 1 := by rw [IntKind.wrap_i64]; omega
              have HBW : Hid _ := below_then HW.out.1 (below_then HD.out.2.2 hBk)
              have hkl : k < l.length := by have := HD.out.2.1; omega
              obtain ⟨b, off, rfl, hci⟩ := (gat_later HBW.out HA.out.1).each kRp_ok i HD.out.2.1
              obtain ⟨b2, off2, e2, hck⟩ := (gat_later HBW.out HA.out.1).each kRp_ok k hkl
              cases e2
              have hc0 := hci 0 (by simp [kRp])
              have hc1 := hck 0 (by simp [kRp])
              simp only [kRp, List.getElem?_cons_zero, Nat.add_zero] at hc0 hc1
              have hsn : l.take (k + 1) = l.take k ++ [l[k]] := List.take_succ_eq_append_getElem hkl
              clear hci hck
              obtain ⟨yi, hyi⟩ : ∃ yi, yi = l[i]'hil := ⟨_, rfl⟩
              obtain ⟨yk, hyk⟩ : ∃ yk, yk = l[k]'hkl := ⟨_, rfl⟩
              rw [← hyi] at hc0 hN
              rw [← hyk] at hc1 hsn
              have he := beq_toList yi.1 yk.1
              have HG : Hid _ := And.intro hsn (And.intro hN (And.intro hyi (And.intro hki hBk)))
              clear hsn hN hyi hyk hki hBk hk hkl
              by_cases hq : yi.1 = yk.1
              · rw [decide_eq_true hq] at he
                clear hq
                have HPK : Hid (∀ m, Below w.heap.size w (wr.drewN m)) := (fun m => below_then HBW.out (⟨rfl, rfl, rfl, Nat.le_refl _, fun _ _ => rfl⟩ : Below wr.heap.size wr (wr.drewN m)) : ∀ m, Below w.heap.size w (wr.drewN m))
                clear HBW HG HD HW
                go_wp2_with fail
                go_quiet (fail)
                go_wp2_with fail
                refine (Calls.mono (known18_any _ (PowT.later HP.out (HPK.out _)))) ?_
                rintro e w9 ⟨rfl, b9⟩
                have F : Hid _ := below_then (HPK.out _) b9
                clear b9 HPK
                go_wp2
                go_ret
                exact ⟨rfl, F.out⟩
              · rw [decide_eq_false hq] at he
                have F2 : Hid (∀ q ∈ l.take (k + 1), ¬ q.1 = (l[i]'hil).1) := (fun q hm => by rw [HG.out.1] at hm; rw [← HG.out.2.2.1]; rcases List.mem_append.1 hm with hm | hm; exact HG.out.2.1 q hm; rw [List.mem_singleton.1 hm]; exact fun e => hq e.symm : ∀ q ∈ l.take (k + 1), ¬ q.1 = (l[i]'hil).1)
                have F : Hid _ := HG.out.2.2.2
                clear hq HG HBW
                go_wp2_with fail
                go_quiet (fail)
                go_wp2
                go_roundw
                case rel => exact ⟨k + 1, by first | rfl | trivial | go_num, F.out.1, by first | exact F.out.2 | exact F.out.2.trans ⟨rfl, rfl, rfl, Nat.le_refl _, fun _ _ => rfl⟩, F2.out⟩
                case measure => have := F.out.1; simp [intOf]; omega
            · obtain rfl : k = i := by omega
              have F : Hid (∀ i' (hi : i' < l.length), i' < k + 1 → ∀ q ∈ l.take i', ¬ q.1 = l[i'].1) := (fun i' hi h => by by_cases e : i' = k; (subst e; exact hN); exact HD.out.1 i' hi (by omega) : ∀ i' (hi : i' < l.length), i' < k + 1 → ∀ q ∈ l.take i', ¬ q.1 = l[i'].1)
              have F2 : Hid _ := And.intro HD.out.2.1 (below_then HD.out.2.2 hBk)
              clear hN hBk HD hki hk
              go_wp2
              go_roundw
              case rel => exact ⟨k + 1, by first | rfl | trivial | go_num, F2.out.1, F2.out.2, F.out⟩
              case measure => have := F2.out.1; simp [intOf]; omega
        · have ei : i = nl := by omega
          subst ei
          have hd : dist [] l = true := dist_of (fun i' hi' => hD i' hi' (by omega))
          have hgt := HB2x.out hd
          have t1 : ¬ ((i : Int) < (i : Int)) := by omega
          have oX := Own.later HW.out.2 hB
          obtain ⟨aX, cX, eX, hXc, -, hrX, hnX, -⟩ := oX.open
          simp only [Value.slice.injEq] at eX
          obtain ⟨rfl, rfl, rfl⟩ := eX
          have HK0 := tGet_any a7 c7 x wr hXc hrX hnX (by omega)
          rw [hgt] at HK0
          have HK : Hid _ := HK0
          have FB : Hid _ := below_then HW.out.1 hB
          clear HK0 hXc hrX hnX oX hgt hd hD hB hil HW HB2x hnl hi
          obtain ⟨nx, hnx⟩ : ∃ nx, nx = x.length := ⟨_, rfl⟩
          rw [← hnx] at HK ⊢
          clear hnx hx3
          go_wp2_with fail
          refine (Calls.mono (HK.out)) ?_
          rintro e w8 ⟨v8, rfl, I8⟩
          clear HK
          obtain ⟨aZ, cZ, eZ, hAZ⟩ := I8.at kPr_ok
          subst eZ
          have H9 : Hid _ := And.intro (below_then FB.out I8.bel) hAZ
          clear I8 hAZ FB
          have HK0 := taken18_any aZ cZ l w8 H9.out.2 (by have := HA.out.2.1; omega)
          rw [← HNL.out] at HK0 ⊢
          have HK : Hid _ := HK0
          clear HK0
          go_wp2_with fail
          refine (Calls.mono (HK.out)) ?_
          rintro e u1 ⟨v1, rfl, J1⟩
          clear HK
          obtain ⟨aV, cV, ez, hAV⟩ := J1.at kRp_ok
          subst ez
          have HK0 := samePr_yes aV a0 cV cap0 l u1 hAV (gat_later (below_then H9.out.1 J1.bel) HA.out.1) (by have := HNL.out; omega)
          rw [← HNL.out] at HK0 ⊢
          have HK : Hid _ := HK0
          have HZ : Hid _ := below_then H9.out.1 J1.bel
          clear HK0 J1 hAV H9
          go_wp2_with fail
          refine (Calls.mono (HK.out)) ?_
          rintro e u2 ⟨rfl, hb2⟩
          have HZ2 : Hid _ := below_then HZ.out hb2
          clear HK hb2 HZ
          have FK : Hid _ := HZ2.out
          clear HZ2
          go_wp2_with fail
          refine (Calls.mono (known18_any u2 (PowT.later HP.out FK.out))) ?_
          rintro e w9 ⟨rfl, b9⟩
          have F : Hid _ := below_then FK.out b9
          clear b9 FK
          go_wp2
          go_ret
          exact ⟨rfl, F.out⟩
    · have dE : (EX != 0) = true := by simpa using hE
      have FK : Hid _ := HW.out.1
      clear HW hE HB2 HB3 HNL
      go_wp2_with fail
      refine (Calls.mono (known18_any y2 (PowT.later HP.out FK.out))) ?_
      rintro e w9 ⟨rfl, b9⟩
      have F : Hid _ := below_then FK.out b9
      clear b9 FK
      go_wp2
      go_ret
      exact ⟨rfl, F.out⟩
end Go.Proofs.YtligmiajlbjecaaDoor

