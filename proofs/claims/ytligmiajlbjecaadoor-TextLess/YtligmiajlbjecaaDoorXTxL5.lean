/- The walk of TextLess. -/
import Derived.Test.YtligmiajlbjecaaDoorXTy7
import Derived.BigQuiet
namespace Go.Proofs.YtligmiajlbjecaaDoor
open Go.RowKit
set_option linter.unusedVariables false
set_option linter.unusedSimpArgs false
set_option maxRecDepth 8000

def dfl18 : Pm18 := ⟨false, false, 8192, 8192, 262144, 65536, true, true, false, ⟨#[]⟩, ⟨#[]⟩⟩
theorem sub_nil18 {A : List Pr} {k : Nat} (hk : k ≤ A.length) (h : List.Sublist ((A.drop k).map Prod.fst) ([] : List ByteArray)) : k = A.length := by
  have := h.length_le
  simp at this
  omega
theorem sub_same18 {A M : List Pr} {k i : Nat} (hk : k < A.length) (hi : i < M.length) (h : List.Sublist ((A.drop k).map Prod.fst) ((M.drop i).map Prod.fst)) : List.Sublist ((A.drop (k + 1)).map Prod.fst) ((M.drop (i + 1)).map Prod.fst) := by
  rw [List.drop_eq_getElem_cons hk, List.drop_eq_getElem_cons hi, List.map_cons, List.map_cons] at h
  generalize A[k].1 = a at *
  generalize M[i].1 = b at *
  cases h with
  | cons _ h => exact (List.sublist_cons_self _ _).trans h
  | cons_cons _ h => exact h
theorem sub_other18 {A M : List Pr} {k i : Nat} (hk : k < A.length) (hi : i < M.length) (hne : ¬ A[k].1 = M[i].1) (h : List.Sublist ((A.drop k).map Prod.fst) ((M.drop i).map Prod.fst)) : List.Sublist ((A.drop k).map Prod.fst) ((M.drop (i + 1)).map Prod.fst) := by
  rw [List.drop_eq_getElem_cons hk, List.drop_eq_getElem_cons hi, List.map_cons, List.map_cons] at h
  rw [List.drop_eq_getElem_cons hk, List.map_cons]
  generalize A[k].1 = a at *
  generalize M[i].1 = b at *
  cases h with
  | cons _ h => exact h
  | cons_cons _ h => exact absurd rfl hne
theorem pri_past18b {K : Kd Pr} {w0 w w' : World} {g : Nat} {a : Option Addr} {c : Nat} {l : List Pr} (h : PrI K w0 w (.slice a l.length c) l) (hK : K.Ok) (hg : w.grownBy w' (some g)) (hb : g < w0.heap.size) : GAt K w' (.slice a l.length c) l := by
  obtain ⟨⟨q, hq, hx⟩, -⟩ := h
  exact (hq.turned (turned_grown (R := fun k => k = g) hg (fun k e => by cases e; rfl)) (fun k hk e => by have := hx k hk; omega)).at hK
theorem any_two18 {P : Program} {Q : Exit → Act → World → Prop} {md : Region.Mode} {S : World → Prop} {L : List Oper} {i j : Nat} {oi oj : Oper} {ri rj : List Oper} (hi : L.drop i = oi :: ri) (hj : L.drop j = oj :: rj) {fuel : Nat} {listed : Array Bool} {a : Act} {w : World} (hr : Region.ready md L.toArray listed = [i, j])
    (h1 : ∀ K' : Act → World → Prop, Shut (∀ a w, S w → (S w → wpAnyH P md L.toArray Q S fuel (listed.setIfInBounds i true) a w) → K' a w) → if Region.wanted oi (yielded L.toArray a.tmps) = true then Oper.wp P oi a w K' Q else K' (a.put oi.dst undef) w)
    (h2 : ∀ K' : Act → World → Prop, Shut (∀ a w, S w → (S w → wpAnyH P md L.toArray Q S fuel (listed.setIfInBounds j true) a w) → K' a w) → if Region.wanted oj (yielded L.toArray a.tmps) = true then Oper.wp P oj a w K' Q else K' (a.put oj.dst undef) w) :
    wpAnyH P md L.toArray Q S (fuel + 1) listed a w :=
  wpAnyH_ready hr (by simp) (AllReadyH.cons (drop_at hi) h1 (AllReadyH.cons (drop_at hj) h2 AllReadyH.nil))
theorem pri_keep18 {w0 w w2 : World} {g : Nat} {a : Option Addr} {c : Nat} {l : List Pr} {o : Obj} (h : PrI kPr w0 w (.slice a l.length c) l) (hK : kPr.Ok) (hg : (w.alloc o).grownBy w2 (some g)) (he : g = w.heap.size) : GAt kPr w2 (.slice a l.length c) l := by
  obtain ⟨⟨q, hq, -⟩, -⟩ := h
  refine ((hq.later ((Below.refl _ _).alloc (Nat.le_refl _) _)).turned (turned_grown (R := fun k => k = g) hg (fun k e => by cases e; rfl)) (fun k hk e => ?_)).at hK
  have := hq.lt k hk
  omega
set_option maxHeartbeats 16000000 in
theorem textLess_walk (a0 : Option Addr) (len0 cap0 : Nat) (l : List Pr) (a1 : Option Addr) (len1 cap1 : Nat) (m : List Pr) (w : World) (hP : PowT w) (B0 : PrArg w a0 len0 cap0 l) (B1 : PrArg w a1 len1 cap1 m) :
    Calls Tryd.prog 6 #[.slice a0 len0 cap0, .slice a1 len1 cap1] w fun e w' => e = .returned (.bool true) ∧ Below w.heap.size w w' := by
  obtain ⟨hlen0, hA0, hf0, hs0⟩ := B0
  obtain ⟨hlen1, hA1, hf1, hs1⟩ := B1
  have HA : Hid _ := And.intro hA0 (And.intro hf0 hs0)
  have HM : Hid _ := And.intro hA1 (And.intro hf1 hs1)
  have HN0 : Hid _ := hlen0
  have HN1 : Hid _ := hlen1
  have HP : Hid _ := hP
  clear hA0 hf0 hs0 hA1 hf1 hs1 hP
  have hb : (100 < len0) ∨ (¬ 100 < len0 ∧ 100 < len1) ∨ (len0 ≤ 100 ∧ len1 ≤ 100) := by omega
  clear hlen0 hlen1
  rcases hb with hb | ⟨hb, hb1⟩ | ⟨hb, hb1⟩
  · have t1 : (100 : Int) < (len0 : Int) := by omega
    go_enter Tryd.func6, Tryd.ntmps6
    have FK : Hid _ := Below.refl w.heap.size w
    go_wp2_with fail
    refine (Calls.mono (known18_any w (PowT.later HP.out FK.out))) ?_
    rintro e w9 ⟨rfl, b9⟩
    have F : Hid _ := below_then FK.out b9
    clear b9 FK
    go_wp2
    go_ret
    exact ⟨rfl, F.out⟩
  · have t1 : ¬ (100 : Int) < (len0 : Int) := by omega
    have t2 : (100 : Int) < (len1 : Int) := by omega
    go_enter Tryd.func6, Tryd.ntmps6
    have FK : Hid _ := Below.refl w.heap.size w
    go_wp2_with fail
    refine (Calls.mono (known18_any w (PowT.later HP.out FK.out))) ?_
    rintro e w9 ⟨rfl, b9⟩
    have F : Hid _ := below_then FK.out b9
    clear b9 FK
    go_wp2
    go_ret
    exact ⟨rfl, F.out⟩
  · have t1 : ¬ (100 : Int) < (len0 : Int) := by omega
    have t2 : ¬ (100 : Int) < (len1 : Int) := by omega
    go_enter Tryd.func6, Tryd.ntmps6
    go_wp2_with fail
    refine (Calls.mono (tdefault w)) ?_
    rintro e w1 ⟨rfl, b1⟩
    have B1' : Hid _ := b1
    clear b1
    have HG0 := given18_any a0 cap0 l w1 (gat_later B1'.out HA.out.1) HA.out.2.1
    rw [← HN0.out] at HG0
    have HG : Hid _ := HG0
    clear HG0
    go_wp2_with fail
    refine (Calls.mono (HG.out)) ?_
    rintro e w2 ⟨v2, rfl, I2⟩
    clear HG
    obtain ⟨a2, c2, ez, hA2⟩ := I2.at kPr_ok
    subst ez
    have H2 : Hid _ := below_then B1'.out I2.bel
    have HT0 := tTalk_any dfl18 a2 c2 l w2 hA2 (by have := HN0.out; omega) (fun x hx => Nat.le_trans (HA.out.2.2 x hx).2 (by unfold maxLen; omega)) (PowT.later HP.out H2.out)
    rw [← HN0.out] at HT0 ⊢
    have hno := talk_no (p := dfl18) (l := l)
    have hye := fun q out h => talk_yes (p := dfl18) (q := q) (l := l) (out := out) h
    generalize talkM dfl18 l = TM at *
    obtain ⟨out0, P, E⟩ := TM
    simp only at HT0 hno hye
    have HT : Hid (Calls Tryd.prog 27 #[.agg #[.bool false, .bool false, .int .i64 8192, .int .i64 8192, .int .i64 262144, .int .i64 65536, .bool true, .bool true, .bool false, .string ⟨#[]⟩, .string ⟨#[]⟩], .slice a2 len0 c2] w2 fun e w' => ∃ v, e = .returned (.tuple #[v, .agg #[.bool P.hs, .bool P.ds, .int .i64 P.mo, .int .i64 P.mi, .int .i64 P.bu, .int .i64 P.fi, .bool P.a, .bool P.imd, .bool P.di, .string P.ini, .string P.tgt], .int .i64 E]) ∧ PrI kPr w2 w' v out0) := HT0
    clear HT0 I2 hA2 B1'
    go_wp2_with fail
    refine (Calls.mono (HT.out)) ?_
    rintro e w3 ⟨v3, rfl, I3⟩
    clear HT
    obtain ⟨a3, n3, c3, ez⟩ := I3.slice kPr_ok
    subst ez
    have H3 : Hid _ := below_then H2.out I3.bel
    clear I3 H2
    have N4 := Blk.new' w3 50 [.bool P.hs, .bool P.ds, .int .i64 P.mo, .int .i64 P.mi, .int .i64 P.bu, .int .i64 P.fi, .bool P.a, .bool P.imd, .bool P.di, .string P.ini, .string P.tgt]
    have bn4 : Below w3.heap.size w3 (w3.alloc (.cells #[.bool P.hs, .bool P.ds, .int .i64 P.mo, .int .i64 P.mi, .int .i64 P.bu, .int .i64 P.fi, .bool P.a, .bool P.imd, .bool P.di, .string P.ini, .string P.tgt] 50)) := (Below.refl _ _).alloc (Nat.le_refl _) _
    obtain ⟨w4, hw4⟩ : ∃ w4, w4 = w3.alloc (.cells #[.bool P.hs, .bool P.ds, .int .i64 P.mo, .int .i64 P.mi, .int .i64 P.bu, .int .i64 P.fi, .bool P.a, .bool P.imd, .bool P.di, .string P.ini, .string P.tgt] 50) := ⟨_, rfl⟩
    rw [← hw4] at N4 bn4
    obtain ⟨gp, hgp⟩ : ∃ g, g = w3.heap.size := ⟨_, rfl⟩
    rw [← hgp] at N4
    have H4 : Hid _ := And.intro (below_then H3.out bn4) N4
    clear bn4 N4 H3
    have HNO : Hid _ := hno
    have HYE : Hid _ := hye
    clear hno hye
    go_upto_region 4 with fail
    rw [← hw4, ← hgp]
    clear hw4 hgp
    by_cases hE : E = 0
    · subst hE
      obtain ⟨hL0, -, -⟩ := HYE.out P out0 rfl
      have hmo := hL0.mo ⟨by decide, by decide⟩
      have HMO : Hid _ := hmo
      clear hmo hL0 HNO HYE
      have HT0 := fun (a5 : Option Addr) (c5 : Nat) (W : World) hA hW => tTalk_any P a5 c5 m W hA (by have := HN1.out; omega) (fun x hx => Nat.le_trans (HM.out.2.2 x hx).2 (by unfold maxLen; omega)) (PowT.later HP.out hW)
      have hno := talk_no (p := P) (l := m)
      have hye := fun q out h => talk_yes (p := P) (q := q) (l := m) (out := out) h
      generalize talkM P m = TM at *
      obtain ⟨out, Q, F⟩ := TM
      simp only at HT0 hno hye
      rw [← HN1.out] at HT0
      have HT : Hid (∀ (a5 : Option Addr) (c5 : Nat) (W : World), GAt kPr W (.slice a5 len1 c5) m → Below w.heap.size w W → Calls Tryd.prog 27 #[.agg #[.bool P.hs, .bool P.ds, .int .i64 P.mo, .int .i64 P.mi, .int .i64 P.bu, .int .i64 P.fi, .bool P.a, .bool P.imd, .bool P.di, .string P.ini, .string P.tgt], .slice a5 len1 c5] W fun e w' => ∃ v, e = .returned (.tuple #[v, .agg #[.bool Q.hs, .bool Q.ds, .int .i64 Q.mo, .int .i64 Q.mi, .int .i64 Q.bu, .int .i64 Q.fi, .bool Q.a, .bool Q.imd, .bool Q.di, .string Q.ini, .string Q.tgt], .int .i64 F]) ∧ PrI kPr W w' v out) := HT0
      have HNO : Hid _ := hno
      have HYE : Hid _ := hye
      clear HT0 hno hye
      have HG : Hid (∀ W : World, Below w.heap.size w W → Calls Tryd.prog 11 #[.slice a1 len1 cap1] W fun e w' => ∃ v, e = .returned v ∧ PrI kPr W w' v m) := (fun W hW => by have h := given18_any a1 cap1 m W (gat_later hW HM.out.1) HM.out.2.1; rw [← HN1.out] at h; exact h : ∀ W : World, Below w.heap.size w W → Calls Tryd.prog 11 #[.slice a1 len1 cap1] W fun e w' => ∃ v, e = .returned v ∧ PrI kPr W w' v m)
      go_upto_region 6 with fail
      go_cut [8, 9, 10] from 43 to 50 (fun pv qv ev wx => ∃ (a6 : Option Addr) (c6 gq : Nat), pv = .slice a6 out.length c6 ∧ qv = .pointer (some ⟨gq, 0, none⟩) ∧ ev = .int .i64 F ∧ GAt kPr wx (.slice a6 out.length c6) out ∧ Below w4.heap.size w4 wx ∧ Blk wx gq 50 [.bool Q.hs, .bool Q.ds, .int .i64 Q.mo, .int .i64 Q.mi, .int .i64 Q.bu, .int .i64 Q.fi, .bool Q.a, .bool Q.imd, .bool Q.di, .string Q.ini, .string Q.tgt])
      case first =>
        refine wp_region_held_drew (S := fun W => Below w4.heap.size w4 W) (by kernel_rfl) (by exact (Below.refl _ _).drew) (fun hS => ?_)
        obtain ⟨x0, hx0⟩ : ∃ x, x = w4.drew := ⟨_, rfl⟩
        rw [← hx0] at hS ⊢
        clear hx0
        refine any_take (i := 0) (v := ?_) rfl (by kernel_rfl) (by kernel_rfl) (by kernel_rfl) (by exact fun _ _ _ h => h) (by rfl) ?_ hS ?_
        rotate_left
        · ((intro w hSw; have B9 := H4.out.2.laterB hSw; have q0 := ck_at B9 0; have q1 := ck_at B9 1; have q2 := ck_at B9 2; have q3 := ck_at B9 3; have q4 := ck_at B9 4; have q5 := ck_at B9 5; have q6 := ck_at B9 6; have q7 := ck_at B9 7; have q8 := ck_at B9 8; have q9 := ck_at B9 9; have q10 := ck_at B9 10; simp only [List.getElem?_cons_zero, List.getElem?_cons_succ] at q0 q1 q2 q3 q4 q5 q6 q7 q8 q9 q10; go_simp) <;> with_reducible rfl)
        (try simp only [Act.put, List.setIfInBounds_toArray, List.set_cons_zero, List.set_cons_succ])
        refine any_take (i := 1) (v := ?_) rfl (by kernel_rfl) (by kernel_rfl) (by kernel_rfl) (by exact fun _ _ _ h => h) (by rfl) ?_ hS ?_
        rotate_left
        · ((intro w hSw; skip; go_simp) <;> with_reducible rfl)
        (try simp only [Act.put, List.setIfInBounds_toArray, List.set_cons_zero, List.set_cons_succ])
        refine any_two18 (i := 2) (j := 8) rfl rfl (by kernel_rfl) (fun K hK => ?_) (fun K hK => ?_)
        · go_simp
          refine (Calls.mono (HG.out x0 (below_then H4.out.1 hS))) ?_
          rintro e x1 ⟨v5, rfl, I5⟩
          obtain ⟨a5, c5, ez, hA5⟩ := I5.at kPr_ok
          have ez2 : v5 = .slice a5 len1 c5 := by rw [ez, HN1.out]
          subst ez2
          clear ez
          have hS' : Below w4.heap.size w4 x1 := below_then hS I5.bel
          go_wp2_with fail
          refine hK.out _ _ hS' (fun _ => ?_)
          clear hK K hS
          have hS := hS'
          clear hS'
          refine any_two18 (i := 3) (j := 8) rfl rfl (by kernel_rfl) (fun K hK => ?_) (fun K hK => ?_)
          · go_simp
            refine (Calls.mono (HT.out a5 c5 x1 (hA5) (below_then H4.out.1 hS))) ?_
            rintro e x2 ⟨v6, rfl, I6⟩
            obtain ⟨a6, c6, ez6, hA6⟩ := I6.at kPr_ok
            subst ez6
            have hS' : Below w4.heap.size w4 x2 := below_then hS I6.bel
            go_wp2_with fail
            refine hK.out _ _ hS' (fun _ => ?_)
            clear hK K hS
            have hS := hS'
            clear hS'
            refine any_take (i := 4) (v := ?_) rfl (by kernel_rfl) (by kernel_rfl) (by kernel_rfl) (by exact fun _ _ _ h => h) (by rfl) ?_ hS ?_
            rotate_left
            · ((intro w hSw; skip; go_simp) <;> with_reducible rfl)
            (try simp only [Act.put, List.setIfInBounds_toArray, List.set_cons_zero, List.set_cons_succ])
            refine any_take (i := 5) (v := ?_) rfl (by kernel_rfl) (by kernel_rfl) (by kernel_rfl) (by exact fun _ _ _ h => h) (by rfl) ?_ hS ?_
            rotate_left
            · ((intro w hSw; skip; go_simp) <;> with_reducible rfl)
            (try simp only [Act.put, List.setIfInBounds_toArray, List.set_cons_zero, List.set_cons_succ])
            refine any_take (i := 6) (v := ?_) rfl (by kernel_rfl) (by kernel_rfl) (by kernel_rfl) (by exact fun _ _ _ h => h) (by rfl) ?_ hS ?_
            rotate_left
            · ((intro w hSw; skip; go_simp) <;> with_reducible rfl)
            (try simp only [Act.put, List.setIfInBounds_toArray, List.set_cons_zero, List.set_cons_succ])
            refine any_take (i := 7) (v := ?_) rfl (by kernel_rfl) (by kernel_rfl) (by kernel_rfl) (by exact fun _ _ _ h => h) (by rfl) ?_ hS ?_
            rotate_left
            · ((intro w hSw; skip; go_simp) <;> with_reducible rfl)
            (try simp only [Act.put, List.setIfInBounds_toArray, List.set_cons_zero, List.set_cons_succ])
            refine any_on (i := 8) rfl (by kernel_rfl) (fun K hK => ?_)
            go_simp
            have N0 := Blk.new' x2 50 [.bool false, .bool false, .int .i64 0, .int .i64 0, .int .i64 0, .int .i64 0, .bool false, .bool false, .bool false, .string ⟨#[]⟩, .string ⟨#[]⟩]
            have b0 : Below x2.heap.size x2 (x2.alloc (.cells #[.bool false, .bool false, .int .i64 0, .int .i64 0, .int .i64 0, .int .i64 0, .bool false, .bool false, .bool false, .string ⟨#[]⟩, .string ⟨#[]⟩] 50)) := (Below.refl _ _).alloc (Nat.le_refl _) _
            obtain ⟨gq, hgq⟩ : ∃ g, g = x2.heap.size := ⟨_, rfl⟩
            obtain ⟨x3, hx3⟩ : ∃ x, x = x2.alloc (.cells #[.bool false, .bool false, .int .i64 0, .int .i64 0, .int .i64 0, .int .i64 0, .bool false, .bool false, .bool false, .string ⟨#[]⟩, .string ⟨#[]⟩] 50) := ⟨_, rfl⟩
            rw [← hx3] at N0 b0
            rw [← hgq] at N0
            have hgl : w4.heap.size ≤ gq := by rw [hgq]; exact hS.size
            rw [← hx3, ← hgq]
            have HX : Hid _ := hx3
            have HGQ : Hid _ := hgq
            clear hx3 hgq
            have hS' : Below w4.heap.size w4 x3 := below_then hS b0
            refine hK.out _ _ hS' (fun _ => ?_)
            clear hK K hS
            have hS := hS'
            clear hS'
            obtain ⟨x9, st, N7, g7⟩ := storeW (T := 50) (vs := [.bool Q.hs, .bool Q.ds, .int .i64 Q.mo, .int .i64 Q.mi, .int .i64 Q.bu, .int .i64 Q.fi, .bool Q.a, .bool Q.imd, .bool Q.di, .string Q.ini, .string Q.tgt]) size_pa (N0) rfl (fun u hu => by simp at hu; rcases hu with rfl | rfl | rfl | rfl | rfl | rfl | rfl | rfl | rfl | rfl | rfl <;> rfl)
            have hq4 : Below w4.heap.size w4 x9 := hS.grown g7 hS.size (fun k e => by cases e; exact hgl)
            have HA8 : GAt kPr x9 (.slice a6 out.length c6) out := pri_keep18 I6 kPr_ok (by rw [HX.out] at g7; exact g7) HGQ.out
            refine any_take (i := 9) (v := ?_) rfl (by kernel_rfl) (by kernel_rfl) (by kernel_rfl) (by exact fun _ _ _ h => h) (by rfl) ?_ hS ?_
            rotate_left
            · ((intro w hSw; skip; go_simp) <;> with_reducible rfl)
            (try simp only [Act.put, List.setIfInBounds_toArray, List.set_cons_zero, List.set_cons_succ])
            refine any_one (i := 10) rfl (by kernel_rfl) (fun K hK => ?_)
            refine step_skip18 (by rfl) (exec_store rfl rfl rfl st) ?_
            refine hK.out _ _ (hq4) ?_
            clear hK K hS
            have hS := hq4
            refine any_take (i := 11) (v := ?_) rfl (by kernel_rfl) (by kernel_rfl) (by kernel_rfl) (by exact fun _ _ _ h => h) (by rfl) ?_ hS ?_
            rotate_left
            · ((intro w hSw; skip; go_simp) <;> with_reducible rfl)
            (try simp only [Act.put, List.setIfInBounds_toArray, List.set_cons_zero, List.set_cons_succ])
            refine wpAnyH_done (by kernel_rfl) ?_ _
            go_wp2
            go_meet
            exact ⟨a6, c6, gq, rfl, rfl, rfl, HA8, hq4, N7⟩
          · go_simp
            have N0 := Blk.new' x1 50 [.bool false, .bool false, .int .i64 0, .int .i64 0, .int .i64 0, .int .i64 0, .bool false, .bool false, .bool false, .string ⟨#[]⟩, .string ⟨#[]⟩]
            have b0 : Below x1.heap.size x1 (x1.alloc (.cells #[.bool false, .bool false, .int .i64 0, .int .i64 0, .int .i64 0, .int .i64 0, .bool false, .bool false, .bool false, .string ⟨#[]⟩, .string ⟨#[]⟩] 50)) := (Below.refl _ _).alloc (Nat.le_refl _) _
            obtain ⟨gq, hgq⟩ : ∃ g, g = x1.heap.size := ⟨_, rfl⟩
            obtain ⟨x2, hx2⟩ : ∃ x, x = x1.alloc (.cells #[.bool false, .bool false, .int .i64 0, .int .i64 0, .int .i64 0, .int .i64 0, .bool false, .bool false, .bool false, .string ⟨#[]⟩, .string ⟨#[]⟩] 50) := ⟨_, rfl⟩
            rw [← hx2] at N0 b0
            rw [← hgq] at N0
            have hgl : w4.heap.size ≤ gq := by rw [hgq]; exact hS.size
            rw [← hx2, ← hgq]
            have HX : Hid _ := hx2
            have HGQ : Hid _ := hgq
            clear hx2 hgq
            have hS' : Below w4.heap.size w4 x2 := below_then hS b0
            refine hK.out _ _ hS' (fun _ => ?_)
            clear hK K hS
            have hS := hS'
            clear hS'
            refine any_on (i := 3) rfl (by kernel_rfl) (fun K hK => ?_)
            go_simp
            refine (Calls.mono (HT.out a5 c5 x2 (gat_later b0 hA5) (below_then H4.out.1 hS))) ?_
            rintro e x3 ⟨v6, rfl, I6⟩
            obtain ⟨a6, c6, ez6, hA6⟩ := I6.at kPr_ok
            subst ez6
            have hS' : Below w4.heap.size w4 x3 := below_then hS I6.bel
            go_wp2_with fail
            refine hK.out _ _ hS' (fun _ => ?_)
            clear hK K hS
            have hS := hS'
            clear hS'
            refine any_take (i := 4) (v := ?_) rfl (by kernel_rfl) (by kernel_rfl) (by kernel_rfl) (by exact fun _ _ _ h => h) (by rfl) ?_ hS ?_
            rotate_left
            · ((intro w hSw; skip; go_simp) <;> with_reducible rfl)
            (try simp only [Act.put, List.setIfInBounds_toArray, List.set_cons_zero, List.set_cons_succ])
            refine any_take (i := 5) (v := ?_) rfl (by kernel_rfl) (by kernel_rfl) (by kernel_rfl) (by exact fun _ _ _ h => h) (by rfl) ?_ hS ?_
            rotate_left
            · ((intro w hSw; skip; go_simp) <;> with_reducible rfl)
            (try simp only [Act.put, List.setIfInBounds_toArray, List.set_cons_zero, List.set_cons_succ])
            refine any_take (i := 6) (v := ?_) rfl (by kernel_rfl) (by kernel_rfl) (by kernel_rfl) (by exact fun _ _ _ h => h) (by rfl) ?_ hS ?_
            rotate_left
            · ((intro w hSw; skip; go_simp) <;> with_reducible rfl)
            (try simp only [Act.put, List.setIfInBounds_toArray, List.set_cons_zero, List.set_cons_succ])
            refine any_take (i := 7) (v := ?_) rfl (by kernel_rfl) (by kernel_rfl) (by kernel_rfl) (by exact fun _ _ _ h => h) (by rfl) ?_ hS ?_
            rotate_left
            · ((intro w hSw; skip; go_simp) <;> with_reducible rfl)
            (try simp only [Act.put, List.setIfInBounds_toArray, List.set_cons_zero, List.set_cons_succ])
            obtain ⟨x9, st, N7, g7⟩ := storeW (T := 50) (vs := [.bool Q.hs, .bool Q.ds, .int .i64 Q.mo, .int .i64 Q.mi, .int .i64 Q.bu, .int .i64 Q.fi, .bool Q.a, .bool Q.imd, .bool Q.di, .string Q.ini, .string Q.tgt]) size_pa (N0.laterB I6.bel) rfl (fun u hu => by simp at hu; rcases hu with rfl | rfl | rfl | rfl | rfl | rfl | rfl | rfl | rfl | rfl | rfl <;> rfl)
            have hq4 : Below w4.heap.size w4 x9 := hS.grown g7 hS.size (fun k e => by cases e; exact hgl)
            have HA8 : GAt kPr x9 (.slice a6 out.length c6) out := pri_past18b I6 kPr_ok g7 N0.lt
            refine any_take (i := 9) (v := ?_) rfl (by kernel_rfl) (by kernel_rfl) (by kernel_rfl) (by exact fun _ _ _ h => h) (by rfl) ?_ hS ?_
            rotate_left
            · ((intro w hSw; skip; go_simp) <;> with_reducible rfl)
            (try simp only [Act.put, List.setIfInBounds_toArray, List.set_cons_zero, List.set_cons_succ])
            refine any_one (i := 10) rfl (by kernel_rfl) (fun K hK => ?_)
            refine step_skip18 (by rfl) (exec_store rfl rfl rfl st) ?_
            refine hK.out _ _ (hq4) ?_
            clear hK K hS
            have hS := hq4
            refine any_take (i := 11) (v := ?_) rfl (by kernel_rfl) (by kernel_rfl) (by kernel_rfl) (by exact fun _ _ _ h => h) (by rfl) ?_ hS ?_
            rotate_left
            · ((intro w hSw; skip; go_simp) <;> with_reducible rfl)
            (try simp only [Act.put, List.setIfInBounds_toArray, List.set_cons_zero, List.set_cons_succ])
            refine wpAnyH_done (by kernel_rfl) ?_ _
            go_wp2
            go_meet
            exact ⟨a6, c6, gq, rfl, rfl, rfl, HA8, hq4, N7⟩
        · go_simp
          have N0 := Blk.new' x0 50 [.bool false, .bool false, .int .i64 0, .int .i64 0, .int .i64 0, .int .i64 0, .bool false, .bool false, .bool false, .string ⟨#[]⟩, .string ⟨#[]⟩]
          have b0 : Below x0.heap.size x0 (x0.alloc (.cells #[.bool false, .bool false, .int .i64 0, .int .i64 0, .int .i64 0, .int .i64 0, .bool false, .bool false, .bool false, .string ⟨#[]⟩, .string ⟨#[]⟩] 50)) := (Below.refl _ _).alloc (Nat.le_refl _) _
          obtain ⟨gq, hgq⟩ : ∃ g, g = x0.heap.size := ⟨_, rfl⟩
          obtain ⟨x1, hx1⟩ : ∃ x, x = x0.alloc (.cells #[.bool false, .bool false, .int .i64 0, .int .i64 0, .int .i64 0, .int .i64 0, .bool false, .bool false, .bool false, .string ⟨#[]⟩, .string ⟨#[]⟩] 50) := ⟨_, rfl⟩
          rw [← hx1] at N0 b0
          rw [← hgq] at N0
          have hgl : w4.heap.size ≤ gq := by rw [hgq]; exact hS.size
          rw [← hx1, ← hgq]
          have HX : Hid _ := hx1
          have HGQ : Hid _ := hgq
          clear hx1 hgq
          have hS' : Below w4.heap.size w4 x1 := below_then hS b0
          refine hK.out _ _ hS' (fun _ => ?_)
          clear hK K hS
          have hS := hS'
          clear hS'
          refine any_on (i := 2) rfl (by kernel_rfl) (fun K hK => ?_)
          go_simp
          refine (Calls.mono (HG.out x1 (below_then H4.out.1 hS))) ?_
          rintro e x2 ⟨v5, rfl, I5⟩
          obtain ⟨a5, c5, ez, hA5⟩ := I5.at kPr_ok
          have ez2 : v5 = .slice a5 len1 c5 := by rw [ez, HN1.out]
          subst ez2
          clear ez
          have hS' : Below w4.heap.size w4 x2 := below_then hS I5.bel
          go_wp2_with fail
          refine hK.out _ _ hS' (fun _ => ?_)
          clear hK K hS
          have hS := hS'
          clear hS'
          refine any_on (i := 3) rfl (by kernel_rfl) (fun K hK => ?_)
          go_simp
          refine (Calls.mono (HT.out a5 c5 x2 (hA5) (below_then H4.out.1 hS))) ?_
          rintro e x3 ⟨v6, rfl, I6⟩
          obtain ⟨a6, c6, ez6, hA6⟩ := I6.at kPr_ok
          subst ez6
          have hS' : Below w4.heap.size w4 x3 := below_then hS I6.bel
          go_wp2_with fail
          refine hK.out _ _ hS' (fun _ => ?_)
          clear hK K hS
          have hS := hS'
          clear hS'
          refine any_take (i := 4) (v := ?_) rfl (by kernel_rfl) (by kernel_rfl) (by kernel_rfl) (by exact fun _ _ _ h => h) (by rfl) ?_ hS ?_
          rotate_left
          · ((intro w hSw; skip; go_simp) <;> with_reducible rfl)
          (try simp only [Act.put, List.setIfInBounds_toArray, List.set_cons_zero, List.set_cons_succ])
          refine any_take (i := 5) (v := ?_) rfl (by kernel_rfl) (by kernel_rfl) (by kernel_rfl) (by exact fun _ _ _ h => h) (by rfl) ?_ hS ?_
          rotate_left
          · ((intro w hSw; skip; go_simp) <;> with_reducible rfl)
          (try simp only [Act.put, List.setIfInBounds_toArray, List.set_cons_zero, List.set_cons_succ])
          refine any_take (i := 6) (v := ?_) rfl (by kernel_rfl) (by kernel_rfl) (by kernel_rfl) (by exact fun _ _ _ h => h) (by rfl) ?_ hS ?_
          rotate_left
          · ((intro w hSw; skip; go_simp) <;> with_reducible rfl)
          (try simp only [Act.put, List.setIfInBounds_toArray, List.set_cons_zero, List.set_cons_succ])
          refine any_take (i := 7) (v := ?_) rfl (by kernel_rfl) (by kernel_rfl) (by kernel_rfl) (by exact fun _ _ _ h => h) (by rfl) ?_ hS ?_
          rotate_left
          · ((intro w hSw; skip; go_simp) <;> with_reducible rfl)
          (try simp only [Act.put, List.setIfInBounds_toArray, List.set_cons_zero, List.set_cons_succ])
          obtain ⟨x9, st, N7, g7⟩ := storeW (T := 50) (vs := [.bool Q.hs, .bool Q.ds, .int .i64 Q.mo, .int .i64 Q.mi, .int .i64 Q.bu, .int .i64 Q.fi, .bool Q.a, .bool Q.imd, .bool Q.di, .string Q.ini, .string Q.tgt]) size_pa ((N0.laterB I5.bel).laterB I6.bel) rfl (fun u hu => by simp at hu; rcases hu with rfl | rfl | rfl | rfl | rfl | rfl | rfl | rfl | rfl | rfl | rfl <;> rfl)
          have hq4 : Below w4.heap.size w4 x9 := hS.grown g7 hS.size (fun k e => by cases e; exact hgl)
          have HA8 : GAt kPr x9 (.slice a6 out.length c6) out := pri_past18b I6 kPr_ok g7 (N0.laterB I5.bel).lt
          refine any_take (i := 9) (v := ?_) rfl (by kernel_rfl) (by kernel_rfl) (by kernel_rfl) (by exact fun _ _ _ h => h) (by rfl) ?_ hS ?_
          rotate_left
          · ((intro w hSw; skip; go_simp) <;> with_reducible rfl)
          (try simp only [Act.put, List.setIfInBounds_toArray, List.set_cons_zero, List.set_cons_succ])
          refine any_one (i := 10) rfl (by kernel_rfl) (fun K hK => ?_)
          refine step_skip18 (by rfl) (exec_store rfl rfl rfl st) ?_
          refine hK.out _ _ (hq4) ?_
          clear hK K hS
          have hS := hq4
          refine any_take (i := 11) (v := ?_) rfl (by kernel_rfl) (by kernel_rfl) (by kernel_rfl) (by exact fun _ _ _ h => h) (by rfl) ?_ hS ?_
          rotate_left
          · ((intro w hSw; skip; go_simp) <;> with_reducible rfl)
          (try simp only [Act.put, List.setIfInBounds_toArray, List.set_cons_zero, List.set_cons_succ])
          refine wpAnyH_done (by kernel_rfl) ?_ _
          go_wp2
          go_meet
          exact ⟨a6, c6, gq, rfl, rfl, rfl, HA8, hq4, N7⟩
      case rest =>
        obtain ⟨a6, c6, gq, rfl, rfl, rfl, hA8, hq4, N7⟩ := hcut
        skip
        have HA8 : Hid (GAt kPr wc (.slice a6 out.length c6) out) := hA8
        have H8 : Hid _ := And.intro (below_then H4.out.1 hq4) (And.intro (H4.out.2.laterB hq4) N7)
        clear hA8 hq4 N7 H4 HT HG
        obtain ⟨no, hno⟩ : ∃ no, no = out.length := ⟨_, rfl⟩
        rw [← hno] at HA8 ⊢
        have HNO2 : Hid _ := hno
        clear hno
        by_cases hF : F = 0
        · subst hF
          obtain ⟨hL, hfb, hsub⟩ := HYE.out Q out rfl
          have c1 : ¬ P.bu < Q.bu := by have := hL.bu; omega
          have c2 : ¬ P.fi < Q.fi := by have := hL.fi; omega
          have c3 : ¬ Q.bu < Q.fi := by omega
          have c4 : (Q.mi != P.mi) = false := by rw [hL.mi]; simp
          have hmo := hL.mo HMO.out
          have c5 : ¬ Q.mo < 512 := by omega
          have c6 : ¬ 65536 < Q.mo := by omega
          have hpa : P.a = false ∨ (P.a = true ∧ Q.a = true) := by cases h : P.a; exact .inl rfl; exact .inr ⟨rfl, hL.asd h⟩
          have hpi : P.imd = true ∨ (P.imd = false ∧ Q.imd = false) := by cases h : P.imd; exact .inr ⟨rfl, by cases h2 : Q.imd; rfl; rw [hL.ims h2] at h; cases h⟩; exact .inl rfl
          have HSUB : Hid _ := hsub
          have HOL : Hid (out.length ≤ m.length) := (by have := hsub.length_le; simpa using this : out.length ≤ m.length)
          clear hL hmo hfb hsub HNO HYE HMO
          have z0 := ck_at H8.out.2.1 0
          have z1 := ck_at H8.out.2.1 1
          have z2 := ck_at H8.out.2.1 2
          have z3 := ck_at H8.out.2.1 3
          have z4 := ck_at H8.out.2.1 4
          have z5 := ck_at H8.out.2.1 5
          have z6 := ck_at H8.out.2.1 6
          have z7 := ck_at H8.out.2.1 7
          have z8 := ck_at H8.out.2.1 8
          have z9 := ck_at H8.out.2.1 9
          have z10 := ck_at H8.out.2.1 10
          simp only [List.getElem?_cons_zero, List.getElem?_cons_succ] at z0 z1 z2 z3 z4 z5 z6 z7 z8 z9 z10
          have y0 := ck_at H8.out.2.2 0
          have y1 := ck_at H8.out.2.2 1
          have y2 := ck_at H8.out.2.2 2
          have y3 := ck_at H8.out.2.2 3
          have y4 := ck_at H8.out.2.2 4
          have y5 := ck_at H8.out.2.2 5
          have y6 := ck_at H8.out.2.2 6
          have y7 := ck_at H8.out.2.2 7
          have y8 := ck_at H8.out.2.2 8
          have y9 := ck_at H8.out.2.2 9
          have y10 := ck_at H8.out.2.2 10
          simp only [List.getElem?_cons_zero, List.getElem?_cons_succ] at y0 y1 y2 y3 y4 y5 y6 y7 y8 y9 y10
          go_upto_region 9 with fail
          generalize P.bu = pbu at *
          generalize P.fi = pfi at *
          generalize P.mi = pmi at *
          generalize Q.bu = qbu at *
          generalize Q.fi = qfi at *
          generalize Q.mi = qmi at *
          generalize Q.mo = qmo at *
          generalize P.a = pa at *
          generalize Q.a = qa at *
          generalize P.imd = pim at *
          generalize Q.imd = qim at *
          rcases hpa with rfl | ⟨rfl, rfl⟩
          · rcases hpi with rfl | ⟨rfl, rfl⟩
            · go_upto_region 11 with fail
              clear c1 c2 c3 c4 c5 c6 z0 y0 z1 y1 z2 y2 z3 y3 z4 y4 z5 y5 z6 y6 z7 y7 z8 y8 z9 y9 z10 y10
              go_wp2_with fail
              go_loopw [11, 12] (fun kv iv wr => ∃ k i : Nat, kv = .int .i64 (k : Int) ∧ iv = .int .i64 (i : Int) ∧ k ≤ out.length ∧ i ≤ m.length ∧ Below wc.heap.size wc wr ∧ List.Sublist ((out.drop k).map Prod.fst) ((m.drop i).map Prod.fst)) (fun _ iv _ => m.length - (intOf iv).toNat)
              case atStart => exact ⟨0, 0, rfl, rfl, Nat.zero_le _, Nat.zero_le _, Below.refl _ _, HSUB.out⟩
              case round =>
                obtain ⟨k, i, rfl, rfl, hk, hi, hB, hs2⟩ := hrel
                have hno := HNO2.out
                have hm1 := HN1.out
                by_cases hil : i < m.length
                · have q1 : (i : Int) < (len1 : Int) := by omega
                  have q1n : i < len1 := by omega
                  by_cases hkl : k < out.length
                  · have q2 : (k : Int) < (no : Int) := by omega
                    have q2n : k < no := by omega
                    have w5 : IntKind.i64.wrap ((k : Int) + 1) = (k : Int) + 1 := by have := HOL.out; rw [IntKind.wrap_i64]; omega
                    have w6 : IntKind.i64.wrap ((i : Int) + 1) = (i : Int) + 1 := by rw [IntKind.wrap_i64]; omega
                    obtain ⟨b, off, e1, hck⟩ := (gat_later hB (by rw [HNO2.out] at HA8; exact HA8.out)).each kPr_ok k hkl
                    subst e1
                    obtain ⟨b2, off2, e2, hci⟩ := (gat_later (below_then H8.out.1 hB) HM.out.1).each kRp_ok i hil
                    subst e2
                    have hc0 := hck 0 (by simp [kPr])
                    have hc1 := hci 0 (by simp [kRp])
                    simp only [kPr, kRp, List.getElem?_cons_zero, Nat.add_zero] at hc0 hc1
                    have hsa := sub_same18 hkl hil hs2
                    have hsb := fun h => sub_other18 hkl hil h hs2
                    generalize out[k] = x at *
                    generalize m[i] = y at *
                    have he := beq_toList x.1 y.1
                    have HG : Hid _ := And.intro hsa (And.intro hsb (And.intro hkl (And.intro hil (And.intro hB (fun n => hB.trans (⟨rfl, rfl, rfl, Nat.le_refl _, fun _ _ => rfl⟩ : Below wc.heap.size wr (wr.drewN n)))))))
                    clear hsa hsb hkl hil hB hs2 hck hci hk hi hno hm1
                    by_cases hq : x.1 = y.1
                    · rw [decide_eq_true hq] at he
                      clear hq
                      go_wp2_with fail
                      go_quiet (fail)
                      go_wp2
                      go_roundw
                      case rel => exact ⟨k + 1, i + 1, by first | rfl | trivial | go_num, by first | rfl | trivial | go_num, HG.out.2.2.1, HG.out.2.2.2.1, by first | exact HG.out.2.2.2.2.1 | exact HG.out.2.2.2.2.2 _, HG.out.1⟩
                      case measure => have := HG.out.2.2.2.1; simp [intOf]; omega
                    · rw [decide_eq_false hq] at he
                      have hs3 := HG.out.2.1 hq
                      have HS3 : Hid _ := hs3
                      clear hs3 hq
                      go_wp2_with fail
                      go_quiet (fail)
                      go_wp2
                      go_roundw
                      case rel => exact ⟨k, i + 1, by first | rfl | trivial | go_num, by first | rfl | trivial | go_num, Nat.le_of_lt HG.out.2.2.1, HG.out.2.2.2.1, by first | exact HG.out.2.2.2.2.1 | exact HG.out.2.2.2.2.2 _, HS3.out⟩
                      case measure => have := HG.out.2.2.2.1; simp [intOf]; omega
                  · have ek : k = no := by omega
                    subst ek
                    have q2 : ¬ (k : Int) < (k : Int) := by omega
                    clear hkl hil
                    have FB : Hid _ := below_then H8.out.1 hB
                    clear hB hs2 hk hi hno hm1
                    have FK : Hid _ := FB.out
                    clear FB
                    go_wp2_with fail
                    refine (Calls.mono (known18_any wr (PowT.later HP.out FK.out))) ?_
                    rintro e w9 ⟨rfl, b9⟩
                    have F : Hid _ := below_then FK.out b9
                    clear b9 FK
                    go_wp2
                    go_ret
                    exact ⟨rfl, F.out⟩
                · have ei : i = m.length := by omega
                  subst ei
                  rw [List.drop_length] at hs2
                  have ek0 := sub_nil18 hk hs2
                  have ek : k = no := by omega
                  subst ek
                  rw [← hm1]
                  have q1 : ¬ (len1 : Int) < (len1 : Int) := by omega
                  clear hil ek0
                  have FB : Hid _ := below_then H8.out.1 hB
                  clear hB hs2 hk hi hno hm1
                  have FK : Hid _ := FB.out
                  clear FB
                  go_wp2_with fail
                  refine (Calls.mono (known18_any wr (PowT.later HP.out FK.out))) ?_
                  rintro e w9 ⟨rfl, b9⟩
                  have F : Hid _ := below_then FK.out b9
                  clear b9 FK
                  go_wp2
                  go_ret
                  exact ⟨rfl, F.out⟩
            · go_upto_region 11 with fail
              clear c1 c2 c3 c4 c5 c6 z0 y0 z1 y1 z2 y2 z3 y3 z4 y4 z5 y5 z6 y6 z7 y7 z8 y8 z9 y9 z10 y10
              go_wp2_with fail
              go_loopw [11, 12] (fun kv iv wr => ∃ k i : Nat, kv = .int .i64 (k : Int) ∧ iv = .int .i64 (i : Int) ∧ k ≤ out.length ∧ i ≤ m.length ∧ Below wc.heap.size wc wr ∧ List.Sublist ((out.drop k).map Prod.fst) ((m.drop i).map Prod.fst)) (fun _ iv _ => m.length - (intOf iv).toNat)
              case atStart => exact ⟨0, 0, rfl, rfl, Nat.zero_le _, Nat.zero_le _, Below.refl _ _, HSUB.out⟩
              case round =>
                obtain ⟨k, i, rfl, rfl, hk, hi, hB, hs2⟩ := hrel
                have hno := HNO2.out
                have hm1 := HN1.out
                by_cases hil : i < m.length
                · have q1 : (i : Int) < (len1 : Int) := by omega
                  have q1n : i < len1 := by omega
                  by_cases hkl : k < out.length
                  · have q2 : (k : Int) < (no : Int) := by omega
                    have q2n : k < no := by omega
                    have w5 : IntKind.i64.wrap ((k : Int) + 1) = (k : Int) + 1 := by have := HOL.out; rw [IntKind.wrap_i64]; omega
                    have w6 : IntKind.i64.wrap ((i : Int) + 1) = (i : Int) + 1 := by rw [IntKind.wrap_i64]; omega
                    obtain ⟨b, off, e1, hck⟩ := (gat_later hB (by rw [HNO2.out] at HA8; exact HA8.out)).each kPr_ok k hkl
                    subst e1
                    obtain ⟨b2, off2, e2, hci⟩ := (gat_later (below_then H8.out.1 hB) HM.out.1).each kRp_ok i hil
                    subst e2
                    have hc0 := hck 0 (by simp [kPr])
                    have hc1 := hci 0 (by simp [kRp])
                    simp only [kPr, kRp, List.getElem?_cons_zero, Nat.add_zero] at hc0 hc1
                    have hsa := sub_same18 hkl hil hs2
                    have hsb := fun h => sub_other18 hkl hil h hs2
                    generalize out[k] = x at *
                    generalize m[i] = y at *
                    have he := beq_toList x.1 y.1
                    have HG : Hid _ := And.intro hsa (And.intro hsb (And.intro hkl (And.intro hil (And.intro hB (fun n => hB.trans (⟨rfl, rfl, rfl, Nat.le_refl _, fun _ _ => rfl⟩ : Below wc.heap.size wr (wr.drewN n)))))))
                    clear hsa hsb hkl hil hB hs2 hck hci hk hi hno hm1
                    by_cases hq : x.1 = y.1
                    · rw [decide_eq_true hq] at he
                      clear hq
                      go_wp2_with fail
                      go_quiet (fail)
                      go_wp2
                      go_roundw
                      case rel => exact ⟨k + 1, i + 1, by first | rfl | trivial | go_num, by first | rfl | trivial | go_num, HG.out.2.2.1, HG.out.2.2.2.1, by first | exact HG.out.2.2.2.2.1 | exact HG.out.2.2.2.2.2 _, HG.out.1⟩
                      case measure => have := HG.out.2.2.2.1; simp [intOf]; omega
                    · rw [decide_eq_false hq] at he
                      have hs3 := HG.out.2.1 hq
                      have HS3 : Hid _ := hs3
                      clear hs3 hq
                      go_wp2_with fail
                      go_quiet (fail)
                      go_wp2
                      go_roundw
                      case rel => exact ⟨k, i + 1, by first | rfl | trivial | go_num, by first | rfl | trivial | go_num, Nat.le_of_lt HG.out.2.2.1, HG.out.2.2.2.1, by first | exact HG.out.2.2.2.2.1 | exact HG.out.2.2.2.2.2 _, HS3.out⟩
                      case measure => have := HG.out.2.2.2.1; simp [intOf]; omega
                  · have ek : k = no := by omega
                    subst ek
                    have q2 : ¬ (k : Int) < (k : Int) := by omega
                    clear hkl hil
                    have FB : Hid _ := below_then H8.out.1 hB
                    clear hB hs2 hk hi hno hm1
                    have FK : Hid _ := FB.out
                    clear FB
                    go_wp2_with fail
                    refine (Calls.mono (known18_any wr (PowT.later HP.out FK.out))) ?_
                    rintro e w9 ⟨rfl, b9⟩
                    have F : Hid _ := below_then FK.out b9
                    clear b9 FK
                    go_wp2
                    go_ret
                    exact ⟨rfl, F.out⟩
                · have ei : i = m.length := by omega
                  subst ei
                  rw [List.drop_length] at hs2
                  have ek0 := sub_nil18 hk hs2
                  have ek : k = no := by omega
                  subst ek
                  rw [← hm1]
                  have q1 : ¬ (len1 : Int) < (len1 : Int) := by omega
                  clear hil ek0
                  have FB : Hid _ := below_then H8.out.1 hB
                  clear hB hs2 hk hi hno hm1
                  have FK : Hid _ := FB.out
                  clear FB
                  go_wp2_with fail
                  refine (Calls.mono (known18_any wr (PowT.later HP.out FK.out))) ?_
                  rintro e w9 ⟨rfl, b9⟩
                  have F : Hid _ := below_then FK.out b9
                  clear b9 FK
                  go_wp2
                  go_ret
                  exact ⟨rfl, F.out⟩
          · rcases hpi with rfl | ⟨rfl, rfl⟩
            · go_upto_region 11 with fail
              clear c1 c2 c3 c4 c5 c6 z0 y0 z1 y1 z2 y2 z3 y3 z4 y4 z5 y5 z6 y6 z7 y7 z8 y8 z9 y9 z10 y10
              go_wp2_with fail
              go_loopw [11, 12] (fun kv iv wr => ∃ k i : Nat, kv = .int .i64 (k : Int) ∧ iv = .int .i64 (i : Int) ∧ k ≤ out.length ∧ i ≤ m.length ∧ Below wc.heap.size wc wr ∧ List.Sublist ((out.drop k).map Prod.fst) ((m.drop i).map Prod.fst)) (fun _ iv _ => m.length - (intOf iv).toNat)
              case atStart => exact ⟨0, 0, rfl, rfl, Nat.zero_le _, Nat.zero_le _, Below.refl _ _, HSUB.out⟩
              case round =>
                obtain ⟨k, i, rfl, rfl, hk, hi, hB, hs2⟩ := hrel
                have hno := HNO2.out
                have hm1 := HN1.out
                by_cases hil : i < m.length
                · have q1 : (i : Int) < (len1 : Int) := by omega
                  have q1n : i < len1 := by omega
                  by_cases hkl : k < out.length
                  · have q2 : (k : Int) < (no : Int) := by omega
                    have q2n : k < no := by omega
                    have w5 : IntKind.i64.wrap ((k : Int) + 1) = (k : Int) + 1 := by have := HOL.out; rw [IntKind.wrap_i64]; omega
                    have w6 : IntKind.i64.wrap ((i : Int) + 1) = (i : Int) + 1 := by rw [IntKind.wrap_i64]; omega
                    obtain ⟨b, off, e1, hck⟩ := (gat_later hB (by rw [HNO2.out] at HA8; exact HA8.out)).each kPr_ok k hkl
                    subst e1
                    obtain ⟨b2, off2, e2, hci⟩ := (gat_later (below_then H8.out.1 hB) HM.out.1).each kRp_ok i hil
                    subst e2
                    have hc0 := hck 0 (by simp [kPr])
                    have hc1 := hci 0 (by simp [kRp])
                    simp only [kPr, kRp, List.getElem?_cons_zero, Nat.add_zero] at hc0 hc1
                    have hsa := sub_same18 hkl hil hs2
                    have hsb := fun h => sub_other18 hkl hil h hs2
                    generalize out[k] = x at *
                    generalize m[i] = y at *
                    have he := beq_toList x.1 y.1
                    have HG : Hid _ := And.intro hsa (And.intro hsb (And.intro hkl (And.intro hil (And.intro hB (fun n => hB.trans (⟨rfl, rfl, rfl, Nat.le_refl _, fun _ _ => rfl⟩ : Below wc.heap.size wr (wr.drewN n)))))))
                    clear hsa hsb hkl hil hB hs2 hck hci hk hi hno hm1
                    by_cases hq : x.1 = y.1
                    · rw [decide_eq_true hq] at he
                      clear hq
                      go_wp2_with fail
                      go_quiet (fail)
                      go_wp2
                      go_roundw
                      case rel => exact ⟨k + 1, i + 1, by first | rfl | trivial | go_num, by first | rfl | trivial | go_num, HG.out.2.2.1, HG.out.2.2.2.1, by first | exact HG.out.2.2.2.2.1 | exact HG.out.2.2.2.2.2 _, HG.out.1⟩
                      case measure => have := HG.out.2.2.2.1; simp [intOf]; omega
                    · rw [decide_eq_false hq] at he
                      have hs3 := HG.out.2.1 hq
                      have HS3 : Hid _ := hs3
                      clear hs3 hq
                      go_wp2_with fail
                      go_quiet (fail)
                      go_wp2
                      go_roundw
                      case rel => exact ⟨k, i + 1, by first | rfl | trivial | go_num, by first | rfl | trivial | go_num, Nat.le_of_lt HG.out.2.2.1, HG.out.2.2.2.1, by first | exact HG.out.2.2.2.2.1 | exact HG.out.2.2.2.2.2 _, HS3.out⟩
                      case measure => have := HG.out.2.2.2.1; simp [intOf]; omega
                  · have ek : k = no := by omega
                    subst ek
                    have q2 : ¬ (k : Int) < (k : Int) := by omega
                    clear hkl hil
                    have FB : Hid _ := below_then H8.out.1 hB
                    clear hB hs2 hk hi hno hm1
                    have FK : Hid _ := FB.out
                    clear FB
                    go_wp2_with fail
                    refine (Calls.mono (known18_any wr (PowT.later HP.out FK.out))) ?_
                    rintro e w9 ⟨rfl, b9⟩
                    have F : Hid _ := below_then FK.out b9
                    clear b9 FK
                    go_wp2
                    go_ret
                    exact ⟨rfl, F.out⟩
                · have ei : i = m.length := by omega
                  subst ei
                  rw [List.drop_length] at hs2
                  have ek0 := sub_nil18 hk hs2
                  have ek : k = no := by omega
                  subst ek
                  rw [← hm1]
                  have q1 : ¬ (len1 : Int) < (len1 : Int) := by omega
                  clear hil ek0
                  have FB : Hid _ := below_then H8.out.1 hB
                  clear hB hs2 hk hi hno hm1
                  have FK : Hid _ := FB.out
                  clear FB
                  go_wp2_with fail
                  refine (Calls.mono (known18_any wr (PowT.later HP.out FK.out))) ?_
                  rintro e w9 ⟨rfl, b9⟩
                  have F : Hid _ := below_then FK.out b9
                  clear b9 FK
                  go_wp2
                  go_ret
                  exact ⟨rfl, F.out⟩
            · go_upto_region 11 with fail
              clear c1 c2 c3 c4 c5 c6 z0 y0 z1 y1 z2 y2 z3 y3 z4 y4 z5 y5 z6 y6 z7 y7 z8 y8 z9 y9 z10 y10
              go_wp2_with fail
              go_loopw [11, 12] (fun kv iv wr => ∃ k i : Nat, kv = .int .i64 (k : Int) ∧ iv = .int .i64 (i : Int) ∧ k ≤ out.length ∧ i ≤ m.length ∧ Below wc.heap.size wc wr ∧ List.Sublist ((out.drop k).map Prod.fst) ((m.drop i).map Prod.fst)) (fun _ iv _ => m.length - (intOf iv).toNat)
              case atStart => exact ⟨0, 0, rfl, rfl, Nat.zero_le _, Nat.zero_le _, Below.refl _ _, HSUB.out⟩
              case round =>
                obtain ⟨k, i, rfl, rfl, hk, hi, hB, hs2⟩ := hrel
                have hno := HNO2.out
                have hm1 := HN1.out
                by_cases hil : i < m.length
                · have q1 : (i : Int) < (len1 : Int) := by omega
                  have q1n : i < len1 := by omega
                  by_cases hkl : k < out.length
                  · have q2 : (k : Int) < (no : Int) := by omega
                    have q2n : k < no := by omega
                    have w5 : IntKind.i64.wrap ((k : Int) + 1) = (k : Int) + 1 := by have := HOL.out; rw [IntKind.wrap_i64]; omega
                    have w6 : IntKind.i64.wrap ((i : Int) + 1) = (i : Int) + 1 := by rw [IntKind.wrap_i64]; omega
                    obtain ⟨b, off, e1, hck⟩ := (gat_later hB (by rw [HNO2.out] at HA8; exact HA8.out)).each kPr_ok k hkl
                    subst e1
                    obtain ⟨b2, off2, e2, hci⟩ := (gat_later (below_then H8.out.1 hB) HM.out.1).each kRp_ok i hil
                    subst e2
                    have hc0 := hck 0 (by simp [kPr])
                    have hc1 := hci 0 (by simp [kRp])
                    simp only [kPr, kRp, List.getElem?_cons_zero, Nat.add_zero] at hc0 hc1
                    have hsa := sub_same18 hkl hil hs2
                    have hsb := fun h => sub_other18 hkl hil h hs2
                    generalize out[k] = x at *
                    generalize m[i] = y at *
                    have he := beq_toList x.1 y.1
                    have HG : Hid _ := And.intro hsa (And.intro hsb (And.intro hkl (And.intro hil (And.intro hB (fun n => hB.trans (⟨rfl, rfl, rfl, Nat.le_refl _, fun _ _ => rfl⟩ : Below wc.heap.size wr (wr.drewN n)))))))
                    clear hsa hsb hkl hil hB hs2 hck hci hk hi hno hm1
                    by_cases hq : x.1 = y.1
                    · rw [decide_eq_true hq] at he
                      clear hq
                      go_wp2_with fail
                      go_quiet (fail)
                      go_wp2
                      go_roundw
                      case rel => exact ⟨k + 1, i + 1, by first | rfl | trivial | go_num, by first | rfl | trivial | go_num, HG.out.2.2.1, HG.out.2.2.2.1, by first | exact HG.out.2.2.2.2.1 | exact HG.out.2.2.2.2.2 _, HG.out.1⟩
                      case measure => have := HG.out.2.2.2.1; simp [intOf]; omega
                    · rw [decide_eq_false hq] at he
                      have hs3 := HG.out.2.1 hq
                      have HS3 : Hid _ := hs3
                      clear hs3 hq
                      go_wp2_with fail
                      go_quiet (fail)
                      go_wp2
                      go_roundw
                      case rel => exact ⟨k, i + 1, by first | rfl | trivial | go_num, by first | rfl | trivial | go_num, Nat.le_of_lt HG.out.2.2.1, HG.out.2.2.2.1, by first | exact HG.out.2.2.2.2.1 | exact HG.out.2.2.2.2.2 _, HS3.out⟩
                      case measure => have := HG.out.2.2.2.1; simp [intOf]; omega
                  · have ek : k = no := by omega
                    subst ek
                    have q2 : ¬ (k : Int) < (k : Int) := by omega
                    clear hkl hil
                    have FB : Hid _ := below_then H8.out.1 hB
                    clear hB hs2 hk hi hno hm1
                    have FK : Hid _ := FB.out
                    clear FB
                    go_wp2_with fail
                    refine (Calls.mono (known18_any wr (PowT.later HP.out FK.out))) ?_
                    rintro e w9 ⟨rfl, b9⟩
                    have F : Hid _ := below_then FK.out b9
                    clear b9 FK
                    go_wp2
                    go_ret
                    exact ⟨rfl, F.out⟩
                · have ei : i = m.length := by omega
                  subst ei
                  rw [List.drop_length] at hs2
                  have ek0 := sub_nil18 hk hs2
                  have ek : k = no := by omega
                  subst ek
                  rw [← hm1]
                  have q1 : ¬ (len1 : Int) < (len1 : Int) := by omega
                  clear hil ek0
                  have FB : Hid _ := below_then H8.out.1 hB
                  clear hB hs2 hk hi hno hm1
                  have FK : Hid _ := FB.out
                  clear FB
                  go_wp2_with fail
                  refine (Calls.mono (known18_any wr (PowT.later HP.out FK.out))) ?_
                  rintro e w9 ⟨rfl, b9⟩
                  have F : Hid _ := below_then FK.out b9
                  clear b9 FK
                  go_wp2
                  go_ret
                  exact ⟨rfl, F.out⟩
        · have hz := HNO.out hF
          simp only [Prod.mk.injEq] at hz
          obtain ⟨rfl, rfl, rfl⟩ := hz
          have hn0 : no = 0 := by rw [HNO2.out]; rfl
          subst hn0
          clear HNO HYE hF HMO HA8 HNO2
          have HE : Hid (∀ W, _) := fun W => eqPa Q W
          have HPm : Hid (∀ W, _) := fun W => tParams_any Q W
          go_upto_region 8 with fail
          refine wp_region_held_drew (S := fun W => Below wc.heap.size wc W) (by kernel_rfl) (by exact (Below.refl _ _).drew) (fun hS => ?_)
          refine any_take (i := 0) (v := ?_) rfl (by kernel_rfl) (by kernel_rfl) (by kernel_rfl) (by exact fun _ _ _ h => h) (by rfl) ?_ hS ?_
          rotate_left
          · ((intro w hSw; skip; go_simp) <;> with_reducible rfl)
          (try simp only [Act.put, List.setIfInBounds_toArray, List.set_cons_zero, List.set_cons_succ])
          refine any_take (i := 1) (v := ?_) rfl (by kernel_rfl) (by kernel_rfl) (by kernel_rfl) (by exact fun _ _ _ h => h) (by rfl) ?_ hS ?_
          rotate_left
          · ((intro w hSw; skip; go_simp) <;> with_reducible rfl)
          (try simp only [Act.put, List.setIfInBounds_toArray, List.set_cons_zero, List.set_cons_succ])
          refine any_take (i := 2) (v := ?_) rfl (by kernel_rfl) (by kernel_rfl) (by kernel_rfl) (by exact fun _ _ _ h => h) (by rfl) ?_ hS ?_
          rotate_left
          · ((intro w hSw; skip; go_simp) <;> with_reducible rfl)
          (try simp only [Act.put, List.setIfInBounds_toArray, List.set_cons_zero, List.set_cons_succ])
          refine any_take (i := 3) (v := ?_) rfl (by kernel_rfl) (by kernel_rfl) (by kernel_rfl) (by exact fun _ _ _ h => h) (by rfl) ?_ hS ?_
          rotate_left
          · ((intro w hSw; skip; go_simp) <;> with_reducible rfl)
          (try simp only [Act.put, List.setIfInBounds_toArray, List.set_cons_zero, List.set_cons_succ])
          refine any_take (i := 4) (v := ?_) rfl (by kernel_rfl) (by kernel_rfl) (by kernel_rfl) (by exact fun _ _ _ h => h) (by rfl) ?_ hS ?_
          rotate_left
          · ((intro w hSw; have B9 := H8.out.2.2.laterB hSw; have q0 := ck_at B9 0; have q1 := ck_at B9 1; have q2 := ck_at B9 2; have q3 := ck_at B9 3; have q4 := ck_at B9 4; have q5 := ck_at B9 5; have q6 := ck_at B9 6; have q7 := ck_at B9 7; have q8 := ck_at B9 8; have q9 := ck_at B9 9; have q10 := ck_at B9 10; simp only [List.getElem?_cons_zero, List.getElem?_cons_succ] at q0 q1 q2 q3 q4 q5 q6 q7 q8 q9 q10; go_simp) <;> with_reducible rfl)
          (try simp only [Act.put, List.setIfInBounds_toArray, List.set_cons_zero, List.set_cons_succ])
          refine any_take (i := 6) (v := ?_) rfl (by kernel_rfl) (by kernel_rfl) (by kernel_rfl) (by exact fun _ _ _ h => h) (by rfl) ?_ hS ?_
          rotate_left
          · ((intro w hSw; have B9 := H8.out.2.1.laterB hSw; have q0 := ck_at B9 0; have q1 := ck_at B9 1; have q2 := ck_at B9 2; have q3 := ck_at B9 3; have q4 := ck_at B9 4; have q5 := ck_at B9 5; have q6 := ck_at B9 6; have q7 := ck_at B9 7; have q8 := ck_at B9 8; have q9 := ck_at B9 9; have q10 := ck_at B9 10; simp only [List.getElem?_cons_zero, List.getElem?_cons_succ] at q0 q1 q2 q3 q4 q5 q6 q7 q8 q9 q10; go_simp) <;> with_reducible rfl)
          (try simp only [Act.put, List.setIfInBounds_toArray, List.set_cons_zero, List.set_cons_succ])
          refine any_one (i := 5) rfl (by kernel_rfl) (fun K hK => ?_)
          go_simp
          refine (Calls.mono (HPm.out _)) ?_
          rintro e y1 ⟨rfl, b1⟩
          have hS1 : Below wc.heap.size wc y1 := below_then (Below.refl _ _).drew b1
          go_wp2_with fail
          refine hK.out _ _ hS1 ?_
          clear hK K hS b1
          have hS := hS1
          clear hS1
          refine any_one (i := 7) rfl (by kernel_rfl) (fun K hK => ?_)
          go_simp
          refine (Calls.mono (HPm.out _)) ?_
          rintro e y2 ⟨rfl, b2⟩
          have hS1 : Below wc.heap.size wc y2 := below_then hS b2
          go_wp2_with fail
          refine hK.out _ _ hS1 ?_
          clear hK K hS b2
          have hS := hS1
          clear hS1
          refine any_take (i := 8) (v := ?_) rfl (by kernel_rfl) (by kernel_rfl) (by kernel_rfl) (by exact fun _ _ _ h => h) (by rfl) ?_ hS ?_
          rotate_left
          · ((intro w hSw; have f4 := HE.out w; go_simp) <;> with_reducible rfl)
          (try simp only [Act.put, List.setIfInBounds_toArray, List.set_cons_zero, List.set_cons_succ])
          refine any_take (i := 9) (v := ?_) rfl (by kernel_rfl) (by kernel_rfl) (by kernel_rfl) (by exact fun _ _ _ h => h) (by rfl) ?_ hS ?_
          rotate_left
          · ((intro w hSw; skip; go_simp) <;> with_reducible rfl)
          (try simp only [Act.put, List.setIfInBounds_toArray, List.set_cons_zero, List.set_cons_succ])
          refine any_take (i := 10) (v := ?_) rfl (by kernel_rfl) (by kernel_rfl) (by kernel_rfl) (by exact fun _ _ _ h => h) (by rfl) ?_ hS ?_
          rotate_left
          · ((intro w hSw; skip; go_simp) <;> with_reducible rfl)
          (try simp only [Act.put, List.setIfInBounds_toArray, List.set_cons_zero, List.set_cons_succ])
          have HKn : Hid _ := known18_any y2 (PowT.later HP.out (below_then H8.out.1 hS))
          refine any_one (i := 11) rfl (by kernel_rfl) (fun K hK => ?_)
          go_simp
          refine (Calls.mono (HKn.out)) ?_
          rintro e y3 ⟨rfl, b3⟩
          have hS1 : Below wc.heap.size wc y3 := below_then hS b3
          go_wp2_with fail
          refine hK.out _ _ hS1 ?_
          clear hK K hS b3
          have hS := hS1
          clear hS1
          refine any_take (i := 12) (v := ?_) rfl (by kernel_rfl) (by kernel_rfl) (by kernel_rfl) (by exact fun _ _ _ h => h) (by rfl) ?_ hS ?_
          rotate_left
          · ((intro w hSw; skip; go_simp) <;> with_reducible rfl)
          (try simp only [Act.put, List.setIfInBounds_toArray, List.set_cons_zero, List.set_cons_succ])
          refine any_take (i := 13) (v := ?_) rfl (by kernel_rfl) (by kernel_rfl) (by kernel_rfl) (by exact fun _ _ _ h => h) (by rfl) ?_ hS ?_
          rotate_left
          · ((intro w hSw; skip; go_simp) <;> with_reducible rfl)
          (try simp only [Act.put, List.setIfInBounds_toArray, List.set_cons_zero, List.set_cons_succ])
          have FF : Hid _ := below_then H8.out.1 hS
          refine wpAnyH_done (by kernel_rfl) ?_ _
          clear hS
          go_wp2
          go_ret
          exact ⟨rfl, FF.out⟩
    · have hz := HNO.out hE
      simp only [Prod.mk.injEq] at hz
      obtain ⟨-, rfl, rfl⟩ := hz
      clear HNO HYE hE
      have he := fun W => eqPa dfl18 W
      have he2 : ∀ W, Sem.run Tryd.prog (Op.equalIn 10000 48 (.agg #[.bool false, .bool false, .int .i64 8192, .int .i64 8192, .int .i64 262144, .int .i64 65536, .bool true, .bool true, .bool false, .string ⟨#[]⟩, .string ⟨#[]⟩]) (.agg #[.bool false, .bool false, .int .i64 8192, .int .i64 8192, .int .i64 262144, .int .i64 65536, .bool true, .bool true, .bool false, .string ⟨#[]⟩, .string ⟨#[]⟩])) W = .ok true W := he
      clear he
      have z0 := ck_at H4.out.2 0
      have z1 := ck_at H4.out.2 1
      have z2 := ck_at H4.out.2 2
      have z3 := ck_at H4.out.2 3
      have z4 := ck_at H4.out.2 4
      have z5 := ck_at H4.out.2 5
      have z6 := ck_at H4.out.2 6
      have z7 := ck_at H4.out.2 7
      have z8 := ck_at H4.out.2 8
      have z9 := ck_at H4.out.2 9
      have z10 := ck_at H4.out.2 10
      simp only [List.getElem?_cons_zero, List.getElem?_cons_succ] at z0 z1 z2 z3 z4 z5 z6 z7 z8 z9 z10
      simp only [dfl18] at z0 z1 z2 z3 z4 z5 z6 z7 z8 z9 z10
      have HPm : Hid (Calls Tryd.prog 24 #[.agg #[.bool false, .bool false, .int .i64 8192, .int .i64 8192, .int .i64 262144, .int .i64 65536, .bool true, .bool true, .bool false, .string ⟨#[]⟩, .string ⟨#[]⟩]] w4 fun e w' => e = .returned (.agg #[.bool false, .bool false, .int .i64 8192, .int .i64 8192, .int .i64 262144, .int .i64 65536, .bool true, .bool true, .bool false, .string ⟨#[]⟩, .string ⟨#[]⟩]) ∧ Below w4.heap.size w4 w') := tParams_any dfl18 w4
      go_wp2_with fail
      refine (Calls.mono (HPm.out)) ?_
      rintro e w5 ⟨rfl, b5⟩
      have H5 : Hid _ := below_then H4.out.1 b5
      clear b5 HPm H4 z0 z1 z2 z3 z4 z5 z6 z7 z8 z9 z10
      go_wp2_with fail
      refine (Calls.mono (rdefault w5)) ?_
      rintro e w6 ⟨rfl, b6⟩
      have H6 : Hid _ := below_then H5.out b6
      clear b6 H5
      have FK : Hid _ := H6.out
      clear H6
      go_wp2_with fail
      refine (Calls.mono (known18_any w6 (PowT.later HP.out FK.out))) ?_
      rintro e w9 ⟨rfl, b9⟩
      have F : Hid _ := below_then FK.out b9
      clear b9 FK
      go_wp2
      go_ret
      exact ⟨rfl, F.out⟩
end Go.Proofs.YtligmiajlbjecaaDoor

