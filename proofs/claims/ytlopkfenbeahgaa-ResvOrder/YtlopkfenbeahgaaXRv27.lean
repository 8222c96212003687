/- Bytes of a state. -/
import Derived.Test.YtlopkfenbeahgaaXRv26
import Derived.Test.YtlopkfenbeahgaaXDraw
namespace Go.Proofs.Ytlopkfenbeahgaa
open Go.RowKit Go.Shelf
set_option linter.unusedVariables false
set_option linter.unusedSimpArgs false
set_option maxRecDepth 4000
attribute [local go_sem] Oper.semAt_some

theorem wr1r (L : List (BitVec 8)) (n : Int) (h : 0 ≤ n ∧ n ≤ 255) : wrNum L 0 1 n = (L ++ be (1 : Int).toNat (BitVec.ofInt 64 n), 0) := by
  unfold wrNum
  have : wnE 1 n = 0 := by unfold wnE widthB; simp; omega
  rw [if_pos rfl, if_pos this]
theorem wr2r (L : List (BitVec 8)) (n : Int) (h : 0 ≤ n ∧ n ≤ 65535) : wrNum L 0 2 n = (L ++ be (2 : Int).toNat (BitVec.ofInt 64 n), 0) := wrNum_2 L n h
theorem wr4r (L : List (BitVec 8)) (n : Int) (h : 0 ≤ n ∧ n ≤ 4294967295) : wrNum L 0 4 n = (L ++ be (4 : Int).toNat (BitVec.ofInt 64 n), 0) := wrNum_4 L n h
theorem wr8r (L : List (BitVec 8)) (n : Int) : wrNum L 0 8 n = (L ++ be (8 : Int).toNat (BitVec.ofInt 64 n), 0) := wrNum_8 L n
theorem kwNum {w W : World} {gw : Nat} {v : Value} {L : List (BitVec 8)} {bs : List (Nat × Nat × List Value)} (h : KW w W gw v L bs) {N : Nat} (hL : L.length ≤ N) (hN : N ≤ 10000) (size n : Int) (hw : wrNum L 0 size n = (L ++ be size.toNat (BitVec.ofInt 64 n), 0)) :
    Calls Try.prog 16 #[.pointer (some ⟨gw, 0, none⟩), .int .i64 size, .int .i64 n] W fun e w' => e = .returned (.tuple #[]) ∧ ∃ v', KW w w' gw v' (L ++ be size.toNat (BitVec.ofInt 64 n)) bs ∧ Turned (Mine gw v) W w' := by
  have N1 := wNum_any w.heap.size gw v L 0 size n W h.wr (by omega)
  rw [hw] at N1
  refine N1.mono ?_
  rintro e w' ⟨rfl, v', W', nw, t⟩
  exact ⟨rfl, v', h.step W' nw t, t⟩
theorem len_more {L : List (BitVec 8)} {N : Nat} (h : L.length ≤ N) (k : Nat) (x : BitVec 64) (hk : k ≤ 8) : (L ++ be (k : Int).toNat x).length ≤ N + 8 := by
  rw [List.length_append, be_length _ _ (by omega)]; omega
theorem blk_not8 {A : World} {k T' : Nat} {xs : List Value} {o : Obj} (hB : Blk A k T' xs) (ho : A.heap[k]? = some o) (hc : o.isCells = false) : False := by
  unfold Blk at hB
  rw [hB] at ho
  cases ho
  simp [Obj.isCells] at hc
theorem wr_not8 {A : World} {base gw : Nat} {v : Value} {L : List (BitVec 8)} {k : Nat} {o : Obj} (hW : WrAt A base gw 74 v L 0) (hm : Mine gw v k) (ho : A.heap[k]? = some o) (hc : o.isCells = false) : False := by
  rcases hm with rfl | hm
  · exact blk_not8 hW.blk ho hc
  · obtain ⟨lo, hO, -⟩ := hW.own
    obtain ⟨_, ⟨rfl, _⟩ | ⟨g', cap, cur, rfl, hb, hh, r⟩⟩ := hO
    · cases hm
    · cases hm
      rw [hh] at ho; cases ho
      simp [Obj.isCells] at hc
theorem kw_own {α : Type} {gw : Nat} {bs : List (Nat × Nat × List Value)} {f : List α → List (BitVec 8)} {w x6 : World} (hz : w.heap.size ≤ x6.heap.size) : OwnFrom x6.heap.size (fun pre W => ∃ v, KW w W gw v (f pre) bs) := by
  rintro s A B row ⟨v, hK⟩ hg hr
  have ht : Turned (fun k => row = some k) A B := turned_grown hg (fun k e => e)
  refine ⟨v, hK.wr.stays ht (fun e => ?_) (fun k hk e => ?_), hK.bl.grown hg hK.bl.size (fun k e => Nat.le_trans hz (hr k e).1), fun b hb => (hK.bx b hb).turned ht (fun e => ?_), hK.ne⟩
  · obtain ⟨_, o, ho, hc⟩ := hr _ e; exact blk_not8 hK.wr.blk ho hc
  · obtain ⟨_, o, ho, hc⟩ := hr _ e; exact wr_not8 hK.wr (.inr hk) ho hc
  · obtain ⟨_, o, ho, hc⟩ := hr _ e; exact blk_not8 (hK.bx b hb) ho hc
theorem kw_from {w A A' : World} {gw B : Nat} {v : Value} {L : List (BitVec 8)} {bs : List (Nat × Nat × List Value)} (hW : KW w A gw v L bs) (ht : Turned (Mine gw v) A A') : KeepsFrom B A A' :=
  ⟨ht.size, fun k o _ hk ho => (ht.block k (Array.getElem?_eq_some_iff.1 hk).1 (fun hm => wr_not8 hW.wr hm hk ho)).trans hk⟩
theorem kw_keep {w A A' : World} {gw : Nat} {v : Value} {L : List (BitVec 8)} {bs : List (Nat × Nat × List Value)} (hW : KW w A gw v L bs) (ht : Turned (Mine gw v) A A') {b : Nat × Nat × List Value} (hb : b ∈ bs) : A'.heap[b.1]? = A.heap[b.1]? :=
  ht.block b.1 (hW.bx b hb).lt (fun hm => by
    rcases hm with e | e
    · exact (hW.ne b hb).1 e
    · exact (hW.ne b hb).2 _ e rfl)
theorem KW.add {w W : World} {gw : Nat} {v : Value} {L : List (BitVec 8)} {bs : List (Nat × Nat × List Value)} (h : KW w W gw v L bs) {k T : Nat} {xs : List Value} (hB : Blk W k T xs) (hn : k ≠ gw) (hv : ∀ j, v.ownBlock = some j → j ≠ k) : KW w W gw v L ((k, T, xs) :: bs) :=
  ⟨h.wr, h.bl, fun b hb => by
    rcases List.mem_cons.1 hb with rfl | hb
    · exact hB
    · exact h.bx b hb, fun b hb => by
    rcases List.mem_cons.1 hb with rfl | hb
    · exact ⟨hn, hv⟩
    · exact h.ne b hb⟩
theorem own_put8 {w : World} {base D : Nat} {v : Value} {l : List (BitVec 8)} {o : Obj} (h : Own w base v l) (hk : ∀ k, v.ownBlock = some k → k ≠ D) : Own (w.putObj D o) base v l :=
  h.same (fun k hv => World.putObj_heap_other (hk k hv))
def rgB (r : Nat × Int) : List (BitVec 8) := be 1 (BitVec.ofInt 64 r.1) ++ be 8 (BitVec.ofInt 64 (wrap64 r.2))
def hdB (gn hh kk fn cn : Int) : List (BitVec 8) := ((((([] ++ be 4 (BitVec.ofInt 64 gn)) ++ be 1 (BitVec.ofInt 64 (hh + 1))) ++ be 1 (BitVec.ofInt 64 kk)) ++ be 2 (BitVec.ofInt 64 fn)) ++ be 1 (BitVec.ofInt 64 cn))
theorem hdB_len (gn hh kk fn cn : Int) : (hdB gn hh kk fn cn).length = 9 := by
  unfold hdB
  simp only [List.length_append, List.length_nil, be_length _ _ (show 4 ≤ 8 by omega), be_length _ _ (show 1 ≤ 8 by omega), be_length _ _ (show 2 ≤ 8 by omega)]
def bytM (m : Rs) : List (BitVec 8) := hdB m.gen (holM m).1 (holM m).2 (fnM m.f 16) ((regsL m.ks 16).length : Int) ++ (regsL m.ks 16).flatMap rgB
theorem regsL_len8 (ks : List Int) (k : Nat) : (regsL ks k).length ≤ k := by
  unfold regsL
  rw [List.length_map]
  have := List.length_filter_le (fun i => ks.getD i 0 != 0) (List.range k)
  rw [List.length_range] at this
  exact this
theorem rgB_len (l : List (Nat × Int)) : (l.flatMap rgB).length = l.length * 9 := by
  induction l with
  | nil => rfl
  | cons r l ih => rw [List.flatMap_cons, List.length_append, ih]; unfold rgB; rw [List.length_append, be_length _ _ (by omega), be_length _ _ (by omega), List.length_cons]; omega
set_option maxHeartbeats 8000000 in
theorem rsBytes_any (g : Nat) (m : Rs) (w : World) (h : (rv g m).Ok w) :
    Calls Try.prog 6 #[.pointer (some ⟨g, 0, none⟩)] w fun e w' => ∃ z, e = .returned z ∧ Own w' w.heap.size z (bytM m) ∧ Below w.heap.size w w' := by
  have hW := h.holds.2
  have hnn : (binOp .eql 23 (.pointer (some ⟨g, 0, none⟩)) (.pointer none)).run Try.prog w = .ok (.bool false) w := by first | rfl | kernel_rfl
  have HE : Hid (bytM m = hdB m.gen (holM m).1 (holM m).2 (fnM m.f 16) ((regsL m.ks 16).length : Int) ++ (regsL m.ks 16).flatMap rgB) := rfl
  have HHo : Hid (∀ W, Below w.heap.size w W → Calls Try.prog 14 #[.pointer (some ⟨g, 0, none⟩)] W fun e w' => e = .returned (.tuple #[.int .i64 (holM m).1, .int .i64 (holM m).2]) ∧ Below W.heap.size W w') := fun W b => holder_any g m W (h.later b)
  have HGe : Hid (∀ W, Below w.heap.size w W → Calls Try.prog 11 #[.pointer (some ⟨g, 0, none⟩)] W fun e w' => e = .returned (.int .i64 m.gen) ∧ Below W.heap.size W w') := fun W b => (gen_any g m W (h.later b)).mono (by rintro e _ ⟨rfl, rfl⟩; exact ⟨rfl, Below.refl _ _⟩)
  have HFe : Hid (∀ W, Below w.heap.size w W → Calls Try.prog 17 #[.pointer (some ⟨g, 0, none⟩)] W fun e w' => e = .returned (.int .i64 (fnM m.f 16)) ∧ Below W.heap.size W w') := fun W b => (fences_any g m W (h.later b)).mono (by rintro e _ ⟨rfl, rfl⟩; exact ⟨rfl, Below.refl _ _⟩)
  have HCo : Hid (∀ W, Below w.heap.size w W → Calls Try.prog 18 #[.pointer (some ⟨g, 0, none⟩)] W fun e w' => e = .returned (.int .i64 ((regsL m.ks 16).length : Int)) ∧ Below W.heap.size W w') := fun W b => count_any g m W (h.later b)
  have HRe : Hid (∀ W, Below w.heap.size w W → Calls Try.prog 19 #[.pointer (some ⟨g, 0, none⟩)] W fun e w' => e = .returned (.func (.func 32) #[] #[.pointer (some ⟨W.heap.size, 0, none⟩)]) ∧ Blk w' W.heap.size 52 (ivs .u64 m.ks) ∧ Below W.heap.size W w') := fun W b => Regs_any g m W (h.later b)
  have gb : 0 ≤ m.gen ∧ m.gen ≤ 4294967295 := by have := hW.gg; omega
  have hb1 : -1 ≤ (holM m).1 ∧ (holM m).1 < 16 ∧ 0 ≤ (holM m).2 ∧ (holM m).2 ≤ 8 := by
    have h1 := hW.hh
    have h2 := hW.kk
    unfold holM; split
    · exact ⟨by decide, by decide, by decide, by decide⟩
    · exact ⟨by simp only; omega, by simp only; omega, by simp only; omega, by simp only; omega⟩
  have fb : 0 ≤ fnM m.f 16 ∧ fnM m.f 16 ≤ 65535 := by have h1 := fnM_lt m.f 16; have h2 : fnM m.f 16 < 65536 := h1.2; omega
  have hcl := regsL_len8 m.ks 16
  have cb : 0 ≤ ((regsL m.ks 16).length : Int) ∧ ((regsL m.ks 16).length : Int) ≤ 255 := by omega
  have HWf : Hid _ := And.intro hW hcl
  obtain ⟨hbl, hbh, hbk, hbk8⟩ := hb1
  generalize (holM m).1 = hh at *
  generalize (holM m).2 = kk at *
  generalize m.gen = gn at *
  generalize fnM m.f 16 = fn at *
  obtain ⟨cn, hcn⟩ : ∃ cn, ((regsL m.ks 16).length : Int) = cn := ⟨_, rfl⟩
  rw [hcn] at HCo HE cb
  clear hcn hW h hcl
  refine (callsIn_wide (n := 9)).1 ?_
  refine callsIn_of_wp_marks Try.func6 rfl trivial ?_ rfl
  simp only [Try.ntmps6, List.size_toArray, List.length_cons, List.length_nil, Nat.reduceAdd, Nat.reduceSub, Array.replicate_succ, Array.replicate_zero, List.push_toArray, List.append_toArray, List.nil_append, List.cons_append]
  refine wpIn_wide.2 (wp_mono (Q := calmR (bodyPostM Fence.wide 9 Try.prog Try.f6 fun e w' => ∃ z, e = .returned z ∧ Own w' w.heap.size z (bytM m) ∧ Below w.heap.size w w')) ?_ (fun e a w h => calmR_out h))
  go_wp2_with fail
  clear hnn
  refine (Calls.mono (HHo.out _ (Below.refl _ _))) ?_
  rintro e x1 ⟨rfl, b1⟩
  clear HHo
  go_wp2_with fail
  refine (Calls.mono (NewWriter_any w.heap.size x1 b1.size)) ?_
  rintro e x2 ⟨gw, rfl, hgw, W2, b2⟩
  have K2 : KW w x2 gw (.slice none 0 0) [] [] := ⟨W2, below_then b1 b2, (fun b hb => by cases hb), (fun b hb => by cases hb)⟩
  have HK : Hid _ := And.intro (K2.new 57 [.pointer (some ⟨gw, 0, none⟩)]) (show ([] : List (BitVec 8)).length ≤ 0 from Nat.le_refl _)
  clear K2 W2 b1 b2 hgw
  go_wp2_with fail
  obtain ⟨bw, hbw⟩ : ∃ bw, x2.heap.size = bw := ⟨_, rfl⟩
  rw [hbw] at HK ⊢
  clear hbw
  generalize x2.alloc (.cells #[.pointer (some ⟨gw, 0, none⟩)] 57) = x3 at *
  have HC : Hid (∀ W, Below x3.heap.size x3 W → W.cell? ⟨bw, 0, none⟩ = some (.pointer (some ⟨gw, 0, none⟩))) := fun W b => by have := blk_at ((HK.out.1.later b).bx _ (List.mem_singleton.2 rfl)) 0; simpa using this
  have HNu : Hid _ := fun (W : World) (b : Below x3.heap.size x3 W) => kwNum (HK.out.1.later b) HK.out.2 (by decide) 4 gn (wr4r _ _ gb)
  refine e_begin (S := fun W => Below x3.heap.size x3 W) 3 (by kernel_rfl) ((Below.refl _ _).drew) (fun hS => ?_)
  refine e_take (i := 0) (v := ?_) [3] rfl (by kernel_rfl) (by kernel_rfl) (by kernel_rfl) (by kernel_rfl) (by exact fun _ _ _ h => h) (by rfl) ?_ hS ?_
  rotate_left
  · ((intro w hSw; (try have cw := HC.out _ hSw); go_simp) <;> with_reducible rfl)
  (try simp only [Act.put, List.setIfInBounds_toArray, List.set_cons_zero, List.set_cons_succ])
  refine e_take (i := 1) (v := ?_) [2, 3] rfl (by kernel_rfl) (by kernel_rfl) (by kernel_rfl) (by kernel_rfl) (by exact fun _ _ _ h => h) (by rfl) ?_ hS ?_
  rotate_left
  · ((intro w hSw; (try have cw := HC.out _ hSw); go_simp) <;> with_reducible rfl)
  (try simp only [Act.put, List.setIfInBounds_toArray, List.set_cons_zero, List.set_cons_succ])
  refine e_one (i := 2) rfl (by kernel_rfl) (fun K hK => ?_)
  go_simp
  refine (Calls.mono (HGe.out _ (below_then HK.out.1.bl hS))) ?_
  rintro e y1 ⟨rfl, b1⟩
  have S1 := below_then hS b1
  clear b1
  go_wp2_with fail
  refine hK.out _ _ (S1) (fun hS => ?_)
  clear hK K
  clear hS
  refine e_last (z := 3) rfl (by kernel_rfl) (fun K hK => ?_)
  go_simp
  refine (Calls.mono (HNu.out _ S1)) ?_
  rintro e x4 ⟨rfl, v4, K1, -⟩
  have HK1 : Hid _ := And.intro K1 (len_more HK.out.2 4 (BitVec.ofInt 64 gn) (by omega))
  clear K1 HK HNu HC S1
  have HK := HK1
  clear HK1
  go_wp2_with fail
  refine hK.out _ _ ?_
  clear hK K
  refine e_done (by kernel_rfl) ?_ _
  have cw := blk_at (HK.out.1.bx _ (List.mem_singleton.2 rfl)) 0
  simp only [List.getElem?_cons_zero] at cw
  have HNu : Hid _ := kwNum HK.out.1 HK.out.2 (by decide) 1 (hh + 1) (wr1r _ _ ⟨by omega, by omega⟩)
  go_wp2_with fail
  refine (Calls.mono HNu.out) ?_
  rintro e x5 ⟨rfl, v5, K1, -⟩
  have HK1 : Hid _ := And.intro K1 (len_more HK.out.2 1 (BitVec.ofInt 64 (hh + 1)) (by omega))
  clear K1 HK HNu cw
  have HK := HK1
  clear HK1
  have cw := blk_at (HK.out.1.bx _ (List.mem_singleton.2 rfl)) 0
  simp only [List.getElem?_cons_zero] at cw
  have HNu : Hid _ := kwNum HK.out.1 HK.out.2 (by decide) 1 kk (wr1r _ _ ⟨by omega, by omega⟩)
  go_wp2_with fail
  refine (Calls.mono HNu.out) ?_
  rintro e x6 ⟨rfl, v6, K1, -⟩
  have HK1 : Hid _ := And.intro K1 (len_more HK.out.2 1 (BitVec.ofInt 64 kk) (by omega))
  clear K1 HK HNu cw
  have HK := HK1
  clear HK1
  go_wp2_with fail
  have HC : Hid (∀ W, Below x6.heap.size x6 W → W.cell? ⟨bw, 0, none⟩ = some (.pointer (some ⟨gw, 0, none⟩))) := fun W b => by have := blk_at ((HK.out.1.later b).bx _ (List.mem_singleton.2 rfl)) 0; simpa using this
  have HNu : Hid _ := fun (W : World) (b : Below x6.heap.size x6 W) => kwNum (HK.out.1.later b) HK.out.2 (by decide) 2 fn (wr2r _ _ fb)
  refine e_begin (S := fun W => Below x6.heap.size x6 W) 3 (by kernel_rfl) ((Below.refl _ _).drew) (fun hS => ?_)
  refine e_take (i := 0) (v := ?_) [3] rfl (by kernel_rfl) (by kernel_rfl) (by kernel_rfl) (by kernel_rfl) (by exact fun _ _ _ h => h) (by rfl) ?_ hS ?_
  rotate_left
  · ((intro w hSw; (try have cw := HC.out _ hSw); go_simp) <;> with_reducible rfl)
  (try simp only [Act.put, List.setIfInBounds_toArray, List.set_cons_zero, List.set_cons_succ])
  refine e_take (i := 1) (v := ?_) [2, 3] rfl (by kernel_rfl) (by kernel_rfl) (by kernel_rfl) (by kernel_rfl) (by exact fun _ _ _ h => h) (by rfl) ?_ hS ?_
  rotate_left
  · ((intro w hSw; (try have cw := HC.out _ hSw); go_simp) <;> with_reducible rfl)
  (try simp only [Act.put, List.setIfInBounds_toArray, List.set_cons_zero, List.set_cons_succ])
  refine e_one (i := 2) rfl (by kernel_rfl) (fun K hK => ?_)
  go_simp
  refine (Calls.mono (HFe.out _ (below_then HK.out.1.bl hS))) ?_
  rintro e y1 ⟨rfl, b1⟩
  have S1 := below_then hS b1
  clear b1
  go_wp2_with fail
  refine hK.out _ _ (S1) (fun hS => ?_)
  clear hK K
  clear hS
  refine e_last (z := 3) rfl (by kernel_rfl) (fun K hK => ?_)
  go_simp
  refine (Calls.mono (HNu.out _ S1)) ?_
  rintro e x7 ⟨rfl, v7, K1, -⟩
  have HK1 : Hid _ := And.intro K1 (len_more HK.out.2 2 (BitVec.ofInt 64 fn) (by omega))
  clear K1 HK HNu HC S1
  have HK := HK1
  clear HK1
  go_wp2_with fail
  refine hK.out _ _ ?_
  clear hK K
  refine e_done (by kernel_rfl) ?_ _
  go_wp2_with fail
  have HC : Hid (∀ W, Below x7.heap.size x7 W → W.cell? ⟨bw, 0, none⟩ = some (.pointer (some ⟨gw, 0, none⟩))) := fun W b => by have := blk_at ((HK.out.1.later b).bx _ (List.mem_singleton.2 rfl)) 0; simpa using this
  have HNu : Hid _ := fun (W : World) (b : Below x7.heap.size x7 W) => kwNum (HK.out.1.later b) HK.out.2 (by decide) 1 cn (wr1r _ _ cb)
  refine e_begin (S := fun W => Below x7.heap.size x7 W) 3 (by kernel_rfl) ((Below.refl _ _).drew) (fun hS => ?_)
  refine e_take (i := 0) (v := ?_) [3] rfl (by kernel_rfl) (by kernel_rfl) (by kernel_rfl) (by kernel_rfl) (by exact fun _ _ _ h => h) (by rfl) ?_ hS ?_
  rotate_left
  · ((intro w hSw; (try have cw := HC.out _ hSw); go_simp) <;> with_reducible rfl)
  (try simp only [Act.put, List.setIfInBounds_toArray, List.set_cons_zero, List.set_cons_succ])
  refine e_take (i := 1) (v := ?_) [2, 3] rfl (by kernel_rfl) (by kernel_rfl) (by kernel_rfl) (by kernel_rfl) (by exact fun _ _ _ h => h) (by rfl) ?_ hS ?_
  rotate_left
  · ((intro w hSw; (try have cw := HC.out _ hSw); go_simp) <;> with_reducible rfl)
  (try simp only [Act.put, List.setIfInBounds_toArray, List.set_cons_zero, List.set_cons_succ])
  refine e_one (i := 2) rfl (by kernel_rfl) (fun K hK => ?_)
  go_simp
  refine (Calls.mono (HCo.out _ (below_then HK.out.1.bl hS))) ?_
  rintro e y1 ⟨rfl, b1⟩
  have S1 := below_then hS b1
  clear b1
  go_wp2_with fail
  refine hK.out _ _ (S1) (fun hS => ?_)
  clear hK K
  clear hS
  refine e_last (z := 3) rfl (by kernel_rfl) (fun K hK => ?_)
  go_simp
  refine (Calls.mono (HNu.out _ S1)) ?_
  rintro e x8 ⟨rfl, v8, K1, -⟩
  have HK1 : Hid _ := And.intro K1 (len_more HK.out.2 1 (BitVec.ofInt 64 cn) (by omega))
  clear K1 HK HNu HC S1
  have HK := HK1
  clear HK1
  go_wp2_with fail
  refine hK.out _ _ ?_
  clear hK K
  refine e_done (by kernel_rfl) ?_ _
  have HRg : Hid _ := HRe.out _ HK.out.1.bl
  clear HGe HFe HCo HRe
  go_wp2_with fail
  refine (Calls.mono HRg.out) ?_
  rintro e x9 ⟨rfl, Bc, b9⟩
  have hsq := regs_stops 8 (by omega) x8.heap.size m.ks x9 HWf.out.1.kl Bc
  have hgl := HK.out.1.wr.blk.lt
  have hcl := Bc.lt
  have K9 := (HK.out.1.later b9).add Bc (by omega) (fun j hj => by have := (HK.out.1.own j hj).2; omega)
  have hz9 : w.heap.size ≤ x9.heap.size := K9.bl.size
  clear HRg HK b9 Bc hgl
  generalize x8.heap.size = c3 at *
  have HK9 : Hid (KW w x9 gw v8 (hdB gn hh kk fn cn ++ (([] : List Rg).map (·.1)).flatMap rgB) [(c3, 52, ivs .u64 m.ks), (bw, 57, [.pointer (some ⟨gw, 0, none⟩)])]) := by
    rw [show (hdB gn hh kk fn cn ++ (([] : List Rg).map (·.1)).flatMap rgB) = hdB gn hh kk fn cn ++ [] from rfl, List.append_nil]
    exact K9
  clear K9
  go_wp2_with fail
  refine (wpIn_wide (n := 9)).1 ?_
  refine wpIn_rangeFunc_ownG rfl (by omega) (gf := 32) (lb := #[.pointer (some ⟨c3, 0, none⟩)]) rfl trivial (enters_of Try.func32 (by kernel_rfl) rfl) hsq (fun h k => h.t k) (fun W l o o' hl h _ _ k hk => World.putObj_heap_other (by simp only [List.mem_singleton] at hk; omega)) (Below.refl _ _) (fun _ => rfl) (fun pre W => ∃ v, KW w W gw v (hdB gn hh kk fn cn ++ (pre.map (·.1)).flatMap rgB) [(c3, 52, ivs .u64 m.ks), (bw, 57, [.pointer (some ⟨gw, 0, none⟩)])]) (fun _ _ _ => False)
    (kw_own hz9) (fun _ _ _ _ _ hs _ _ => hs) ⟨v8, HK9.out⟩ (fun x => { tmps := #[.pointer (some ⟨g, 0, none⟩), undef, .slice none 0 0, .int .i64 hh, .int .i64 kk, .pointer (some ⟨bw, 0, none⟩), .int .i64 (x.1.1 : Int), .int .u64 x.1.2, undef, undef, .pointer (some ⟨g, 0, none⟩), .bool false, .tuple #[.int .i64 hh, .int .i64 kk], .pointer (some ⟨g, 0, none⟩), .tuple #[.int .i64 hh, .int .i64 kk], .int .i64 hh, .int .i64 kk, .pointer (some ⟨gw, 0, none⟩), .pointer (some ⟨gw, 0, none⟩), .pointer (some ⟨g, 0, none⟩), .int .i64 gn, .tuple #[], .pointer (some ⟨gw, 0, none⟩), .int .i64 hh, .int .i64 (hh + 1), .tuple #[], .pointer (some ⟨gw, 0, none⟩), .int .i64 kk, .tuple #[], .pointer (some ⟨gw, 0, none⟩), .pointer (some ⟨g, 0, none⟩), .int .i64 fn, .tuple #[], .pointer (some ⟨gw, 0, none⟩), .pointer (some ⟨g, 0, none⟩), .int .i64 cn, .tuple #[], .pointer (some ⟨g, 0, none⟩), .func (.func 32) #[] #[.pointer (some ⟨c3, 0, none⟩)], .int .i64 (x.1.1 : Int), .int .u64 x.1.2, undef, undef, undef, undef, undef, undef, undef, undef, undef, undef, undef, undef, undef], defers := [] }) ?assign ?body ?done ?stop
  case assign =>
    intro l x W K hK
    simp only [encP]
    first | (gi_wp2; exact hK) | (simpa using hK) | (gi_wp2; simpa using hK)
  case body =>
    rintro l' pre x W ⟨v, hK⟩ hlt
    obtain ⟨⟨xi, xk⟩, hxi⟩ := x
    have hxi' : xi < 16 := hxi
    have hL : (hdB gn hh kk fn cn ++ (pre.map (·.1)).flatMap rgB).length ≤ 900 := by rw [List.length_append, hdB_len, rgB_len, List.length_map]; omega
    have eL : hdB gn hh kk fn cn ++ ((pre ++ [(⟨(xi, xk), hxi⟩ : Rg)]).map (·.1)).flatMap rgB = ((hdB gn hh kk fn cn ++ (pre.map (·.1)).flatMap rgB) ++ be (1 : Int).toNat (BitVec.ofInt 64 (xi : Int))) ++ be (8 : Int).toNat (BitVec.ofInt 64 (wrap64 xk)) := by
      rw [List.map_append, List.flatMap_append, List.map_singleton, List.flatMap_singleton, List.append_assoc, List.append_assoc]
      rfl
    refine wpIn_mono (Q := roundR (fun W' => KeepsFrom x9.heap.size W W' ∧ KeepL [c3] W W' ∧ ∃ v, KW w W' gw v (hdB gn hh kk fn cn ++ ((pre ++ [(⟨(xi, xk), hxi⟩ : Rg)]).map (·.1)).flatMap rgB) [(c3, 52, ivs .u64 m.ks), (bw, 57, [.pointer (some ⟨gw, 0, none⟩)])])) ?_ ?_
    rotate_left
    · rintro e a W' h
      cases e <;> first | exact h.elim | exact h
    rw [eL]
    clear eL hsq hlt
    generalize (hdB gn hh kk fn cn ++ (pre.map (·.1)).flatMap rgB) = L at *
    have cw := blk_at (hK.bx _ (List.mem_cons_of_mem _ (List.mem_singleton.2 rfl))) 0
    simp only [List.getElem?_cons_zero] at cw
    have N1 := kwNum hK hL (by decide) 1 (xi : Int) (wr1r _ _ ⟨by omega, by omega⟩)
    have H1 : Hid _ := And.intro hK (And.intro hL N1)
    clear hK hL N1
    gi_wp2_with fail
    refine ⟨trivial, ?_⟩
    refine (CallsIn.inRound l' (callsIn_wide.2 H1.out.2.2)).mono ?_
    rintro e y1 ⟨rfl, v1, K1, t1⟩
    clear cw
    have cw := blk_at (K1.bx _ (List.mem_cons_of_mem _ (List.mem_singleton.2 rfl))) 0
    simp only [List.getElem?_cons_zero] at cw
    have N2 := kwNum K1 (len_more H1.out.2.1 1 (BitVec.ofInt 64 (xi : Int)) (by omega)) (by decide) 8 (wrap64 xk) (wr8r _ _)
    have H2 : Hid _ := And.intro K1 (And.intro t1 N2)
    clear K1 t1 N2
    gi_wp2_with fail
    refine ⟨trivial, ?_⟩
    refine (CallsIn.inRound l' (callsIn_wide.2 H2.out.2.2)).mono ?_
    rintro e y2 ⟨rfl, v2, K2, t2⟩
    clear cw
    have F : Hid (KeepsFrom x9.heap.size W y2 ∧ KeepL [c3] W y2 ∧ ∃ v, KW w y2 gw v ((L ++ be (1 : Int).toNat (BitVec.ofInt 64 (xi : Int))) ++ be (8 : Int).toNat (BitVec.ofInt 64 (wrap64 xk))) [(c3, 52, ivs .u64 m.ks), (bw, 57, [.pointer (some ⟨gw, 0, none⟩)])]) := by
      have f1 : KeepsFrom x9.heap.size W y1 := kw_from H1.out.1 H2.out.2.1
      have f2 : KeepsFrom x9.heap.size y1 y2 := kw_from H2.out.1 t2
      refine ⟨⟨Nat.le_trans f1.1 f2.1, fun k o hk hko hc => f2.2 k o hk (f1.2 k o hk hko hc) hc⟩, fun k hk => ?_, v2, K2⟩
      simp only [List.mem_singleton] at hk
      subst hk
      exact (kw_keep H2.out.1 t2 (b := (k, 52, ivs .u64 m.ks)) (List.mem_cons_self ..)).trans (kw_keep H1.out.1 H2.out.2.1 (b := (k, 52, ivs .u64 m.ks)) (List.mem_cons_self ..))
    clear K2 t2 H1 H2
    gi_wp2
    exact F.out
  case done =>
    rintro D ys W hD hys ⟨v, hK⟩ hdf
    rw [hys] at hK
    have cw := blk_at (hK.bx _ (List.mem_cons_of_mem _ (List.mem_singleton.2 rfl))) 0
    simp only [List.getElem?_cons_zero] at cw
    have hL : (hdB gn hh kk fn cn ++ (regsL m.ks 16).flatMap rgB).length ≤ 900 := by rw [List.length_append, hdB_len, rgB_len]; have := HWf.out.2; omega
    rw [← HE.out] at hK hL
    have HEn : Hid _ := wEnd_any w.heap.size gw v _ 0 W hK.wr (by omega)
    have F0 : Hid _ := And.intro hK.bl (And.intro hdf (And.intro hD hz9))
    clear hK hdf hD hz9 hL hys hsq HK9
    go_wp2_with fail
    refine (Calls.mono HEn.out) ?_
    rintro e y9 ⟨z, rfl, o9, b9⟩
    rw [show ∀ L, wrEnd L 0 = L from fun L => if_pos rfl] at o9
    obtain ⟨hb, hdf, hD, hz9⟩ := F0.out
    have hlD : D < W.heap.size := (Array.getElem?_eq_some_iff.1 hdf).1
    have F : Hid _ := And.intro o9 (And.intro (below_then hb b9) (And.intro ((b9.block D hlD).trans hdf) (And.intro hb.size (And.intro hD hlD))))
    clear o9 b9 hb hdf hD hlD HEn F0 cw
    go_wp2_with fail
    refine ⟨by simp, .inl ⟨_, _, rfl, run_takeDeferred F.out.2.2.1, ?_⟩⟩
    refine ⟨_, results_tmp rfl _ _ _, z, rfl, ?_, ?_⟩
    · have := F.out.1.lower F.out.2.2.2.1
      exact own_put8 this (fun k hk => by have := (World.ownsRow.lt F.out.1 k hk).1; have := F.out.2.2.2.2.2; omega)
    · exact F.out.2.1.trans (belowK_b (w := w) (Nat.le_refl _) y9 D _ _ (Nat.le_trans hz9 F.out.2.2.2.2.1) F.out.2.2.1 rfl rfl)
  case stop =>
    rintro D c pre W _ _ h _
    exact h.elim
end Go.Proofs.Ytlopkfenbeahgaa

