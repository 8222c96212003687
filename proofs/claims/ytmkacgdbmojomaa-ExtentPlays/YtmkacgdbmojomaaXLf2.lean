/- extent: so many blocks are read. -/
import Derived.Test.YtmkacgdbmojomaaXLf0
import Derived.Test.YtmkacgdbmojomaaXLf1
import Derived.Test.YtmkacgdbmojomaaXLd1
namespace Go.Proofs.Ytmkacgdbmojomaa
open Go.RowKit Go.ChangeMaps
set_option linter.unusedVariables false
set_option linter.unusedSimpArgs false
set_option maxRecDepth 100000

theorem exec_entry {P : Program} {w w' : World} {a : Act} {o : Oper} {t : TypeId} {m x : Operand} (ho : o.op = .mapEntry t m x) {p q u : Value} (hm : a.eval m = p) (hx : a.eval x = q) (h : (Instr.mapEntry t p q).run P w = .ok u w') : (execOp a.eval o).run P w = .ok (.value u) w' := by
  simp [execOp, ho, hm, hx, h, Result.andThen]
theorem exec_entrySt {P : Program} {w w' : World} {a : Act} {o : Oper} {t : TypeId} {m s x : Operand} (ho : o.op = .entryStore t m s x) {p q u : Value} (hm : a.eval m = p) (hs : a.eval s = q) (hx : a.eval x = u) (h : (Instr.entryStore t p q u).run P w = .ok () w') : (execOp a.eval o).run P w = .ok .skip w' := by
  simp [execOp, ho, hm, hs, hx, h, Result.andThen]
theorem stepF_skip {P : Program} {o : Oper} {a : Act} {w w' : World} {K : Act → World → Prop} {Q : Exit → Act → World → Prop} {E : Prop} {b : Bool} (hb : b = true) (h : (execOp a.eval o).run P w = .ok .skip w') (next : K (a.put o.dst undef) w') : if b = true then Oper.wp P o a w K Q else E := by
  rw [if_pos hb]
  unfold Oper.wp
  rw [h]
  exact next
theorem stepF_value {P : Program} {o : Oper} {a : Act} {w w' : World} {v : Value} {K : Act → World → Prop} {Q : Exit → Act → World → Prop} {E : Prop} {b : Bool} (hb : b = true) (h : (execOp a.eval o).run P w = .ok (.value v) w') (next : K (a.put o.dst v) w') : if b = true then Oper.wp P o a w K Q else E := by
  rw [if_pos hb]
  unfold Oper.wp
  rw [h]
  exact next
theorem im_anew {g b : Nat} {m m' : Im} {w w' : World} {es' : Array MapEntry} {clock' : Nat} (h : (im g b m).Ok w) (ht : Turned (fun k => k = b) w w') (hn : m'.n = m.n) (hb : w'.heap[b]? = some (.map es' clock')) (hM : MapIs es' clock' m'.M) : (im g b m').Ok w' := by
  obtain ⟨h1, h2, -⟩ := h.holds
  refine im_ok ⟨h1, ?_, es', clock', hb, hM⟩
  rw [hn]
  exact h2.turned ht h1
theorem im_entry {g b : Nat} {m : Im} {w : World} (h : (im g b m).Ok w) (i : Nat) (hi : I64 i) : ∃ (v0 : Value) (st : Nat) (w1 : World), (Instr.mapEntry 59 (.map (some b)) (.int .i64 (i : Int))).run Try.prog w = .ok (.tuple #[v0, .int .i64 st]) w1 ∧ Turned (fun k => k = b) w w1 ∧
    ∀ (w2 : World) (l : List (BitVec 8)), w2.heap[b]? = w1.heap[b]? → Turned (fun k => k = b) w w2 → ∃ w3, (Instr.entryStore 59 (.map (some b)) (.int .i64 st) (arrV l)).run Try.prog w2 = .ok () w3 ∧ (im g b (putI m i (some l))).Ok w3 ∧ Turned (fun k => k = b) w w3 := by
  obtain ⟨h1, h2, es, clock, h3, h4⟩ := h.holds
  obtain ⟨v0, st, es1, clock1, hr, hst⟩ := h4.entry (P := Try.prog) und_int und_map h3 (fun u => zero_blk u) hi
  have t1 : Turned (fun k => k = b) w (setBlock w b (.map es1 clock1)) := ⟨rfl, rfl, rfl, by simp [setBlock], fun k hk hn => heap_setBlock_other h3 _ hn⟩
  refine ⟨v0, st, _, hr, t1, fun w2 l hw2 ht2 => ?_⟩
  rw [heap_setBlock_same h3 _] at hw2
  obtain ⟨es', clock', hr2, hM⟩ := hst w2 (arrV l) hw2
  have t3 : Turned (fun k => k = b) w2 (setBlock w2 b (.map es' clock')) := ⟨rfl, rfl, rfl, by simp [setBlock], fun k hk hn => heap_setBlock_other hw2 _ hn⟩
  have t13 := ht2.trans (t3.mono (fun k hk => .inl hk))
  exact ⟨_, hr2, im_anew h t13 rfl (heap_setBlock_same hw2 _) (by rw [putI_M]; exact hM), t13⟩
structure LmS (w W : World) (g b gr : Nat) (m : Im) (L : List (BitVec 8)) (E : Int) : Prop where
  rd : Rd W [b] gr 116 L E
  img : (im g b m).Ok W
  wf : m.Wf
  low : w.heap.size ≤ g ∧ w.heap.size ≤ b ∧ w.heap.size ≤ gr
  far : gr ≠ g ∧ gr ≠ b
  below : Below w.heap.size w W
theorem LmS.num {w W W' : World} {g b gr : Nat} {m : Im} {L L' : List (BitVec 8)} {E E' : Int} (h : LmS w W g b gr m L E) (hr : Rd W' [b] gr 116 L' E') (hg : W.grownBy W' (some gr)) : LmS w W' g b gr m L' E' :=
  ⟨hr, h.img.turned (turned_grown (R := fun k => k = gr) hg (fun k e => (Option.some.inj e).symm)) (fun k hk e => by
      subst e
      rcases hk with hk | hk
      · exact h.far.2 (by simpa [im] using hk)
      · exact h.far.1 (by simpa [im] using hk)), h.wf, h.low, h.far, h.below.grown hg h.below.size (fun k e => by have := Option.some.inj e; have := h.low.2.2; omega)⟩
theorem LmS.later {w W W' : World} {g b gr : Nat} {m : Im} {L : List (BitVec 8)} {E : Int} (h : LmS w W g b gr m L E) (hb : Below W.heap.size W W') : LmS w W' g b gr m L E :=
  ⟨h.rd.later hb, h.img.later hb, h.wf, h.low, h.far, below_then h.below hb⟩
theorem LmS.put {w W W' : World} {g b gr : Nat} {m m' : Im} {L : List (BitVec 8)} {E : Int} (h : LmS w W g b gr m L E) (him : (im g b m').Ok W') (ht : Turned (fun k => k = b) W W') (hw : m'.Wf) : LmS w W' g b gr m' L E :=
  ⟨h.rd.keep (turned_one ht) (fun k e => ⟨fun e2 => h.far.2 (by rw [← e2]; exact (Option.some.inj e).symm), .inl (by rw [Option.some.inj e]; simp)⟩), him, hw, h.low, h.far, h.below.grown (turned_one ht) h.below.size (fun k e => by have := Option.some.inj e; have := h.low.2.1; omega)⟩
/-- what load answers -/
def LlR (R : Int × Im) (w : World) (g b : Nat) (e : Ending) (w' : World) : Prop := e = .returned (.int .i64 R.1) ∧ Below w.heap.size w w' ∧ (R.1 = 0 → (im g b R.2).Ok w')
theorem rd2_six (L : List (BitVec 8)) (h : L.length < 66) : ∃ L1 E1 v1, rdNum L 0 2 = (L1, E1, v1) ∧ (rw8 L1 E1 8).2 = 10 := by
  by_cases h2 : L.length < 2
  · exact ⟨_, _, _, rd2_no L h2, rw8_err _ _ (by decide) _⟩
  · exact ⟨_, _, _, rd2_yes L (by omega), rw8_short _ _ (by rw [List.length_drop]; omega)⟩
set_option maxHeartbeats 16000000 in
theorem imload_any (w0 : World) (g b gr : Nat) (m : Im) (L : List (BitVec 8)) (k : Nat) (hk : k < 65536) (w : World) (S : LmS w0 w g b gr m L 0) : Calls Try.prog 39 #[.pointer (some ⟨g, 0, none⟩), .pointer (some ⟨gr, 0, none⟩), .int .i64 (k : Int)] w fun e w' => LlR (ldL k (-1) m L) w0 g b e w' := by
  have HI0 : Hid _ := And.intro S hk
  have hkI : (k : Int) < 65536 := by omega
  have hmI : (m.n : Int) ≤ 256 := by have := S.wf.most; omega
  clear S hk
  generalize hR : ldL k (-1) m L = R at *
  have HR0 : Hid _ := hR
  clear hR
  go_enter Try.func39, Try.ntmps39
  go_wp2_with fail
  go_loopw [7, 11] (fun lv iv wr => ∃ (i : Nat) (last : Int) (m' : Im) (L' : List (BitVec 8)), i ≤ k ∧ iv = .int .i64 i ∧ lv = .int .i64 last ∧ (-1 ≤ last ∧ last < 65536) ∧ ldL (k - i) last m' L' = R ∧ m'.n = m.n ∧ LmS w0 wr g b gr m' L' 0) (fun _ iv _ => k - (intOf iv).toNat)
  case atStart => exact ⟨0, -1, m, L, Nat.zero_le _, rfl, rfl, ⟨by omega, by omega⟩, HR0.out, rfl, HI0.out.1⟩
  case round =>
    obtain ⟨i, last, m', L', hi, rfl, rfl, hlast, hrec0, hmn, hS⟩ := hrel
    have HI : Hid _ := And.intro hrec0 (And.intro hmn hS)
    clear hrec0 hmn hS
    by_cases hlt : i < k
    · have q1 : (i : Int) < (k : Int) := by omega
      have hki : k - i = (k - (i + 1)) + 1 := by omega
      have HLast : Hid _ := hlast
      by_cases h66 : L'.length < 66
      · obtain ⟨L1, E1, v1, e1, h1⟩ := rd2_six L' h66
        have N := Num_any [b] gr L' 0 2 wr HI.out.2.2.rd
        rw [e1] at N
        simp only at N
        have hE : R.1 = 10 := by rw [← HI.out.1, hki, ldL, if_pos h66]
        have HN : Hid _ := And.intro N (And.intro hE h1)
        clear N e1 hE h1 HLast
        go_wp2_with fail
        refine (Calls.mono HN.out.1) ?_
        rintro e w5 ⟨rfl, R5, g5⟩
        have H5 : Hid _ := HI.out.2.2.num R5 g5
        clear R5 g5
        go_wp2_with fail
        refine (Calls.mono (readBlock_any [b] gr L1 E1 w5 H5.out.rd)) ?_
        rintro e w6 ⟨bl, hbl, rfl, -, R6, g6⟩
        have H6 : Hid _ := H5.out.num R6 g6
        have hhl : Hid _ := hbl
        clear R6 g6 hbl H5
        go_wp2_with (first | (refine wpList_value rfl (exec_alloc rfl (alloc_blk _)) ?_) | (refine wpList_skip rfl (exec_store rfl rfl rfl (store_blk _ _ hhl.out)) ?_))
        have b7 : Below w6.heap.size w6 (w6.alloc (.cells (vals bl).toArray 77)) := (Below.refl _ _).alloc (Nat.le_refl _) _
        have H7 : Hid _ := H6.out.later b7
        clear b7
        generalize w6.alloc (.cells (vals bl).toArray 77) = w7 at *
        have hs : rdEnd (rw8 L1 E1 8).1 (rw8 L1 E1 8).2 = 10 := by unfold rdEnd; rw [HN.out.2.2, if_neg (by decide)]
        have HS := isShort_any [b] gr _ _ w7 H7.out.rd
        rw [hs] at HS
        have HS1 : Hid _ := HS
        clear HS hs
        refine (Calls.mono HS1.out) ?_
        rintro e _ ⟨rfl, rfl⟩
        have F : Hid _ := And.intro HN.out.2.1 H7.out.below
        clear HN H7 H6 HI
        go_wp2
        go_ret
        exact ⟨by rw [F.out.1]; rfl, F.out.2, fun h => by rw [F.out.1] at h; exact absurd h (by decide)⟩
      · have h2 : 2 ≤ L'.length := by omega
        have e1 := rd2_yes L' h2
        have N := Num_any [b] gr L' 0 2 wr HI.out.2.2.rd
        rw [e1] at N
        simp only at N
        have hnl := n2_lt L'
        have HN : Hid _ := N
        clear N e1
        go_wp2_with fail
        refine (Calls.mono HN.out) ?_
        rintro e w5 ⟨rfl, R5, g5⟩
        clear HN
        have H5 : Hid _ := HI.out.2.2.num R5 g5
        clear R5 g5
        have h64 : 64 ≤ (L'.drop 2).length := by rw [List.length_drop]; omega
        have hrw := rw8_ok (L'.drop 2) 8 (by omega)
        go_wp2_with fail
        refine (Calls.mono (readBlock_any [b] gr (L'.drop 2) 0 w5 H5.out.rd)) ?_
        rintro e w6 ⟨bl, hbl, rfl, hbe, R6, g6⟩
        rw [hrw] at R6
        have hbe2 := hbe rfl h64
        clear hbe
        subst hbe2
        rw [show (L'.drop 2).drop (8 * 8) = L'.drop 66 by rw [List.drop_drop]] at R6
        have H6 : Hid _ := H5.out.num R6 g6
        have hhl : Hid _ := hbl
        clear R6 g6 hbl H5 hrw
        generalize hbb : (L'.drop 2).take 64 = bl' at *
        go_wp2_with (first | (refine wpList_value rfl (exec_alloc rfl (alloc_blk _)) ?_) | (refine wpList_skip rfl (exec_store rfl rfl rfl (store_blk _ _ hhl.out)) ?_))
        have b7 : Below w6.heap.size w6 (w6.alloc (.cells (vals bl').toArray 77)) := (Below.refl _ _).alloc (Nat.le_refl _) _
        have r7 := row_new w6 bl' 77
        have H7 : Hid _ := And.intro (H6.out.later b7) r7
        have hz7 : w6.heap.size < (w6.alloc (.cells (vals bl').toArray 77)).heap.size := by simp
        have hbz := H6.out.img.lt b (.inl (by simp [im]))
        clear b7 r7
        generalize w6.alloc (.cells (vals bl').toArray 77) = w7 at *
        have hs : (rdEnd (L'.drop 66) 0 == 10) = false := by unfold rdEnd; rw [if_pos rfl]; split <;> rfl
        have HS := isShort_any [b] gr _ _ w7 H7.out.1.rd
        rw [hs] at HS
        have HS1 : Hid _ := HS
        clear HS hs
        refine (Calls.mono HS1.out) ?_
        rintro e _ ⟨rfl, rfl⟩
        clear HS1
        obtain ⟨c0, c1⟩ := im_cells H7.out.1.img
        rw [HI.out.2.1] at c0
        have hnI : (n2 L' : Int) < 65536 := by omega
        by_cases hbad : (n2 L' : Int) ≤ last ∨ m'.n ≤ n2 L'
        · have hE : R.1 = 11 := by rw [← HI.out.1, hki, ldL, if_neg h66, if_pos hbad]
          have F : Hid _ := And.intro hE H7.out.1.below
          have q5 : (n2 L' : Int) ≤ last ∨ (m.n : Int) ≤ (n2 L' : Int) := by have := HI.out.2.1; omega
          clear hbad HI H7 H6 hE HLast
          generalize n2 L' = x at *
          by_cases q6 : (m.n : Int) ≤ (x : Int)
          · go_wp2
            go_ret
            exact ⟨by rw [F.out.1]; rfl, F.out.2, fun h => by rw [F.out.1] at h; exact absurd h (by decide)⟩
          · have q7 : (x : Int) ≤ last := by omega
            have q8 : (x : Int) < (m.n : Int) := by omega
            clear hlast hnl hnI hlt q1 hi h2 q5 q6 hkI hmI
            go_wp2
            go_ret
            exact ⟨by rw [F.out.1]; rfl, F.out.2, fun h => by rw [F.out.1] at h; exact absurd h (by decide)⟩
        · have q6 : (n2 L' : Int) < (m.n : Int) := by have := HI.out.2.1; omega
          have q7 : last < (n2 L' : Int) := by omega
          have hrec : ldL (k - (i + 1)) (n2 L') (putI m' (n2 L') (some bl')) (L'.drop 66) = R := by rw [← HI.out.1, hki, ldL, if_neg h66, if_neg hbad, hbb]
          have hwf : (putI m' (n2 L') (some bl')).Wf := putI_wf H7.out.1.wf (by omega) (fun l e => by cases e; exact hhl.out)
          have HG : Hid _ := And.intro hrec (And.intro hwf HI.out.2.1)
          have h1 : I64 ((n2 L' : Nat) : Int) := by unfold I64; omega
          have hent := im_entry H7.out.1.img.drew (n2 L') h1
          have hbm : b < w7.heap.size := by omega
          have hmk : w6.heap.size ≠ b := by omega
          clear hrec hwf hbad h1 HI hbb h66 h64 hki hbz
          generalize n2 L' = x at *
          have HQ : Hid _ := And.intro hlt hnl
          clear hlast hnl hnI hlt q1 hi h2 hkI hmI hbm
          obtain ⟨v0, st, w8, hme, t8, hst⟩ := hent
          have HE : Hid _ := And.intro t8 hst
          clear t8 hst
          obtain ⟨w9, hr9, him9, t9⟩ := HE.out.2 w8 bl' rfl HE.out.1
          have hgb : g ≠ b := H7.out.1.img.holds.1
          have hgl : g < w7.heap.size := H7.out.1.img.lt g (.inr (by simp [im]))
          have hS8 : w8.cell? ⟨g, 1, none⟩ = some (.map (some b)) ∧ Row w8 (some ⟨w6.heap.size, 0, none⟩) bl' := ⟨(World.cell?_of_block (w := w7.drew) (a := ⟨g, 1, none⟩) (HE.out.1.block g hgl hgb)).trans c1, row_same (w1 := w7.drew) H7.out.2 (fun ad e => by cases e; exact HE.out.1.block _ hz7 hmk)⟩
          have hS9 : w9.cell? ⟨g, 1, none⟩ = some (.map (some b)) ∧ Row w9 (some ⟨w6.heap.size, 0, none⟩) bl' := ⟨(World.cell?_of_block (w := w7.drew) (a := ⟨g, 1, none⟩) (t9.block g hgl hgb)).trans c1, row_same (w1 := w7.drew) H7.out.2 (fun ad e => by cases e; exact t9.block _ hz7 hmk)⟩
          have HF9 : Hid _ := ((H7.out.1.later (Below.refl _ _).drew).put him9 t9 HG.out.2.1)
          have HR9 : Hid _ := And.intro hr9 hme
          have HS8 : Hid _ := And.intro hS8 hS9
          clear him9 t9 hr9 hme HE hgb hgl hz7 hmk hS8 hS9
          have hnm : (putI m' x (some bl')).n = m.n := HG.out.2.2
          have HNM : Hid _ := hnm
          clear hnm
          go_wp2_with fail
          refine wp_region_held_drew (S := fun W => W.cell? ⟨g, 1, none⟩ = some (.map (some b)) ∧ Row W (some ⟨w6.heap.size, 0, none⟩) bl') (by kernel_rfl) (⟨c1, H7.out.2⟩) (fun hS => ?_)
          refine any_take (i := 0) (v := ?_) rfl (by kernel_rfl) (by kernel_rfl) (by kernel_rfl) (by exact fun _ _ _ h => h) (by rfl) ?_ hS ?_
          rotate_left
          · ((intro w hSw; (try dsimp only at hSw); go_simp) <;> with_reducible rfl)
          (try simp only [Act.put, List.setIfInBounds_toArray, List.set_cons_zero, List.set_cons_succ])
          refine any_take (i := 1) (v := ?_) rfl (by kernel_rfl) (by kernel_rfl) (by kernel_rfl) (by exact fun _ _ _ h => h) (by rfl) ?_ hS ?_
          rotate_left
          · ((intro w hSw; (try dsimp only at hSw); go_simp) <;> with_reducible rfl)
          (try simp only [Act.put, List.setIfInBounds_toArray, List.set_cons_zero, List.set_cons_succ])
          refine any_take (i := 2) (v := ?_) rfl (by kernel_rfl) (by kernel_rfl) (by kernel_rfl) (by exact fun _ _ _ h => h) (by rfl) ?_ hS ?_
          rotate_left
          · ((intro w hSw; (try dsimp only at hSw); go_simp) <;> with_reducible rfl)
          (try simp only [Act.put, List.setIfInBounds_toArray, List.set_cons_zero, List.set_cons_succ])
          refine any_take (i := 3) (v := ?_) rfl (by kernel_rfl) (by kernel_rfl) (by kernel_rfl) (by exact fun _ _ _ h => h) (by rfl) ?_ hS ?_
          rotate_left
          · ((intro w hSw; (try dsimp only at hSw); go_simp) <;> with_reducible rfl)
          (try simp only [Act.put, List.setIfInBounds_toArray, List.set_cons_zero, List.set_cons_succ])
          refine any_take (i := 4) (v := ?_) rfl (by kernel_rfl) (by kernel_rfl) (by kernel_rfl) (by exact fun _ _ _ h => h) (by rfl) ?_ hS ?_
          rotate_left
          · ((intro w hSw; (try dsimp only at hSw); go_simp) <;> with_reducible rfl)
          (try simp only [Act.put, List.setIfInBounds_toArray, List.set_cons_zero, List.set_cons_succ])
          refine any_take (i := 5) (v := arrV bl') rfl (by kernel_rfl) (by kernel_rfl) (by kernel_rfl) (by exact fun _ _ _ h => h) (by rfl) ?_ hS ?_
          · intro W hSW; exact exec_load rfl rfl (load_blk hSW.2 hhl.out)
          (try simp only [Act.put, List.setIfInBounds_toArray, List.set_cons_zero, List.set_cons_succ])
          refine any_take (i := 6) (v := ?_) rfl (by kernel_rfl) (by kernel_rfl) (by kernel_rfl) (by exact fun _ _ _ h => h) (by rfl) ?_ hS ?_
          rotate_left
          · ((intro w hSw; (try dsimp only at hSw); go_simp) <;> with_reducible rfl)
          (try simp only [Act.put, List.setIfInBounds_toArray, List.set_cons_zero, List.set_cons_succ])
          refine any_one (i := 7) rfl (by kernel_rfl) (fun K hK => stepF_value (by rfl) (exec_entry rfl rfl rfl HR9.out.2) ?_)
          refine hK.out _ _ HS8.out.1 ?_
          clear hK K hS
          have hS := HS8.out.1
          (try simp only [Act.put, List.setIfInBounds_toArray, List.set_cons_zero, List.set_cons_succ])
          refine any_take (i := 8) (v := ?_) rfl (by kernel_rfl) (by kernel_rfl) (by kernel_rfl) (by exact fun _ _ _ h => h) (by rfl) ?_ hS ?_
          rotate_left
          · ((intro w hSw; (try dsimp only at hSw); go_simp) <;> with_reducible rfl)
          (try simp only [Act.put, List.setIfInBounds_toArray, List.set_cons_zero, List.set_cons_succ])
          refine any_one (i := 9) rfl (by kernel_rfl) (fun K hK => stepF_skip (by rfl) (exec_entrySt rfl rfl rfl rfl HR9.out.1) ?_)
          refine hK.out _ _ HS8.out.2 ?_
          clear hK K hS
          have hS := HS8.out.2
          (try simp only [Act.put, List.setIfInBounds_toArray, List.set_cons_zero, List.set_cons_succ])
          refine any_take (i := 10) (v := ?_) rfl (by kernel_rfl) (by kernel_rfl) (by kernel_rfl) (by exact fun _ _ _ h => h) (by rfl) ?_ hS ?_
          rotate_left
          · ((intro w hSw; (try dsimp only at hSw); go_simp) <;> with_reducible rfl)
          (try simp only [Act.put, List.setIfInBounds_toArray, List.set_cons_zero, List.set_cons_succ])
          refine wpAnyH_done (by kernel_rfl) ?_ _
          clear HS8 HR9 hS c0 c1
          have hiI : (i : Int) < 65536 := by have := HQ.out.1; have := HI0.out.2; omega
          go_wp2
          go_roundw
          case rel => exact ⟨i + 1, x, _, L'.drop 66, by have := HQ.out.1; omega, by go_num, rfl, ⟨by omega, by have := HQ.out.2; omega⟩, HG.out.1, HNM.out, HF9.out⟩
          case measure => simp [intOf]; have := HQ.out.1; omega
    · obtain rfl : i = k := by omega
      have q1 : ¬ ((i : Int) < (i : Int)) := by omega
      have hr0 : ldL 0 last m' L' = R := by rw [← HI.out.1, Nat.sub_self]
      have HE := End_any [b] gr L' 0 wr HI.out.2.2.rd
      have hv : rdEnd L' 0 = R.1 := by rw [← hr0, ldL]; unfold rdEnd; rw [if_pos rfl]; split <;> rfl
      have hm0 : R.1 = 0 → R.2 = m' := by
        intro h
        rw [← hr0, ldL] at h ⊢
        by_cases h2 : 0 < L'.length
        · rw [if_pos h2] at h; cases h
        · rw [if_neg h2]
      rw [hv] at HE
      have H6 : Hid _ := And.intro HE (And.intro hm0 HI.out.2.2)
      clear HE hr0 HI hv hm0
      go_wp2_with fail
      refine (Calls.mono H6.out.1) ?_
      rintro e _ ⟨rfl, rfl⟩
      go_wp2
      go_ret
      exact ⟨rfl, H6.out.2.2.below, fun h => by rw [H6.out.2.1 h]; exact H6.out.2.2.img⟩
end Go.Proofs.Ytmkacgdbmojomaa

/- extent: Load. -/
namespace Go.Proofs.Ytmkacgdbmojomaa
open Go.RowKit
set_option linter.unusedVariables false
set_option linter.unusedSimpArgs false
set_option maxRecDepth 8000

/-- what Load answers -/
def PlR (L : List (BitVec 8)) (w : World) (e : Ending) (w' : World) : Prop :=
  ((ldM L).1 ≠ 0 ∧ e = .returned (.tuple #[.pointer none, .int .i64 (ldM L).1]) ∧ Below w.heap.size w w') ∨
  ((ldM L).1 = 0 ∧ ∃ g b, e = .returned (.tuple #[.pointer (some ⟨g, 0, none⟩), .int .i64 0]) ∧ (im g b (ldM L).2).Ok w' ∧ (∀ k, k ∈ (im g b (ldM L).2).W ∨ k ∈ (im g b (ldM L).2).V → w.heap.size ≤ k) ∧ Below w.heap.size w w')
theorem PlR.err {L : List (BitVec 8)} {w w' : World} {E : Int} (h : (ldM L).1 = E) (hE : E ≠ 0) (hb : Below w.heap.size w w') : PlR L w (.returned (.tuple #[.pointer none, .int .i64 E])) w' :=
  .inl ⟨by rw [h]; exact hE, by rw [h], hb⟩
set_option maxHeartbeats 16000000 in
theorem imLoad_any (a : Option Addr) (len cap : Nat) (L : List (BitVec 8)) (w : World) (hl : L.length = len) (hle : len ≤ cap) (hr : Row w a L) (hn : a = none → cap = 0) (hlen : len ≤ 140737488351232) :
    Calls Try.prog 11 #[.slice a len cap] w fun e w' => PlR L w e w' := by
  subst hl
  have HP : Hid _ := And.intro hr (And.intro hn (And.intro hle hlen))
  clear hr hn hle hlen
  go_enter Try.func11, Try.ntmps11
  go_wp2_with fail
  refine (Calls.mono (NewReader_any a L.length cap L w rfl HP.out.2.2.1 HP.out.1 HP.out.2.1 HP.out.2.2.2)) ?_
  rintro e w1 ⟨gd, rfl, hg, hRd, b1⟩
  have R1 := hRd [] (by simp)
  obtain ⟨L1, E1, v1, L2, E2, v2, e1, e2, hs, hb⟩ := rd2_two L
  have N1 := Num_any [] gd L 0 2 w1 R1
  rw [e1] at N1
  simp only at N1
  have H1 : Hid _ := And.intro N1 (And.intro hg (And.intro b1 (And.intro hs (And.intro hb e2))))
  clear N1 R1 hRd b1 hs hb e1 e2 hg
  go_wp2_with fail
  refine (Calls.mono H1.out.1) ?_
  rintro e w2 ⟨rfl, R2, g2⟩
  have N2 := Num_any [] gd L1 E1 2 w2 R2
  rw [H1.out.2.2.2.2.2] at N2
  simp only at N2
  have H2 : Hid _ := And.intro N2 (H1.out.2.2.1.grown g2 H1.out.2.2.1.size (fun k e => by have := Option.some.inj e; have := H1.out.2.1; omega))
  clear N2 R2 g2
  go_wp2_with fail
  refine (Calls.mono H2.out.1) ?_
  rintro e w3 ⟨rfl, R3, g3⟩
  have b3 := H2.out.2.grown g3 H2.out.2.size (fun k e => by have := Option.some.inj e; have := H1.out.2.1; omega)
  have H3 : Hid _ := And.intro R3 b3
  clear R3 b3 g3 H2
  by_cases h4 : L.length < 4
  · obtain rfl : E2 = 10 := H1.out.2.2.2.1 h4
    have HS : Hid _ := isShort_any [] gd L2 10 w3 H3.out.1
    have hv : (rdEnd L2 10 == 10) = true := by unfold rdEnd; rw [if_neg (by decide)]; rfl
    rw [hv] at HS
    have hE : (ldM L).1 = 10 := by unfold ldM; rw [if_pos h4]
    have HE : Hid _ := And.intro hE H3.out.2
    clear hE H3 H1 h4 hv
    go_wp2_with fail
    refine (Calls.mono HS.out) ?_
    rintro e _ ⟨rfl, rfl⟩
    go_wp2
    refine bodyPost_ret (v := .tuple #[.pointer none, .int .i64 10]) (by first | rfl | simp [results, Try.results11, go_sem]) rfl ?_
    exact PlR.err HE.out.1 (by decide) HE.out.2
  · obtain ⟨rfl, rfl, rfl, rfl⟩ := H1.out.2.2.2.2.1 (by omega)
    have hn1 := n2_lt L
    have hk1 := n2_lt (L.drop 2)
    have HLM : Hid _ := (show ldM L = if n2 L < 1 ∨ 256 < n2 L then (1, im0 0) else ldL (n2 (L.drop 2)) (-1) (im0 (n2 L)) (L.drop 4) by unfold ldM; rw [if_neg h4])
    have HS : Hid _ := isShort_any [] gd (L.drop 4) 0 w3 H3.out.1
    have hv : (rdEnd (L.drop 4) 0 == 10) = false := by unfold rdEnd; rw [if_pos rfl]; split <;> rfl
    rw [hv] at HS
    clear hv
    generalize hnn : n2 L = nn at *
    generalize hkk : n2 (L.drop 2) = kk at *
    clear hnn hkk
    go_wp2_with fail
    refine (Calls.mono HS.out) ?_
    rintro e _ ⟨rfl, rfl⟩
    clear HS
    by_cases hbad : nn < 1 ∨ 256 < nn
    · have HE : Hid _ := (show (ldM L).1 = 1 by rw [HLM.out, if_pos hbad])
      have HN : Hid _ := imNew_no (nn : Int) w3 (by unfold I64; omega) (by omega)
      clear hbad h4
      go_wp2_with fail
      refine (Calls.mono HN.out) ?_
      rintro e _ ⟨rfl, rfl⟩
      go_wp2
      refine bodyPost_ret (v := .tuple #[.pointer none, .int .i64 1]) (by first | rfl | simp [results, Try.results11, go_sem]) rfl ?_
      exact PlR.err HE.out (by decide) H3.out.2
    · have HN : Hid _ := imNew_yes nn w3 (by omega)
      have HLM2 : Hid _ := (show ldM L = ldL kk (-1) (im0 nn) (L.drop 4) by rw [HLM.out, if_neg hbad])
      have HWf : Hid _ := (show (im0 nn).Wf from ⟨by show 1 ≤ nn; omega, by show nn ≤ 256; omega, fun k l e => by cases e⟩)
      clear hbad h4 HLM
      go_wp2_with fail
      refine (Calls.mono HN.out) ?_
      rintro e w4 ⟨g, b, rfl, hgg, hbb, hok, b4⟩
      have hgl := H3.out.1.blt
      have hgw := H1.out.2.1
      have hS : LmS w w4 g b gd (im0 nn) (L.drop 4) 0 := ⟨(H3.out.1.more b hbb).later b4, hok, HWf.out, ⟨Nat.le_trans H3.out.2.size hgg, Nat.le_trans H3.out.2.size hbb, hgw⟩, ⟨by omega, by omega⟩, below_then H3.out.2 b4⟩
      have HL : Hid _ := And.intro (imload_any w g b gd (im0 nn) (L.drop 4) kk hk1 w4 hS) hS.low
      clear hS hok b4 hgg hbb hgl hgw H3 H1 HN
      rw [← HLM2.out] at HL
      go_wp2_with fail
      refine (Calls.mono HL.out.1) ?_
      rintro e w5 ⟨rfl, b5, hok5⟩
      have HF : Hid _ := And.intro b5 (And.intro hok5 HL.out.2)
      clear b5 hok5 HL HLM2
      by_cases h0 : (ldM L).1 = 0
      · have HZ : Hid _ := h0
        rw [h0]
        clear h0
        go_wp2
        refine bodyPost_ret (v := .tuple #[.pointer (some ⟨g, 0, none⟩), .int .i64 0]) (by first | rfl | simp [results, Try.results11, go_sem]) rfl ?_
        exact .inr ⟨HZ.out, g, b, rfl, HF.out.2.1 HZ.out, fun k hk => hk.elim (fun hk => by rw [show k = b by simpa [im] using hk]; exact HF.out.2.2.2.1) (fun hk => by rw [show k = g by simpa [im] using hk]; exact HF.out.2.2.1), HF.out.1⟩
      · have HZ : Hid _ := h0
        generalize hEE : (ldM L).1 = EE at *
        have HEE : Hid _ := hEE
        clear hEE
        go_wp2
        refine bodyPost_ret (v := .tuple #[.pointer none, .int .i64 EE]) (by first | rfl | simp [results, Try.results11, go_sem]) rfl ?_
        exact PlR.err HEE.out HZ.out HF.out.1
end Go.Proofs.Ytmkacgdbmojomaa
