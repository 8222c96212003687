/- text: Get. -/
import Derived.Test.YtligmiajlbjecaaDoorXTx20
namespace Go.Proofs.YtligmiajlbjecaaDoor
open Go.RowKit
set_option linter.unusedVariables false
set_option linter.unusedSimpArgs false
set_option maxRecDepth 8000

theorem step_skip18 {P : Program} {o : Oper} {a : Act} {w w' : World} {K : Act → World → Prop} {Q : Exit → Act → World → Prop} {E : Prop} {b : Bool} (hb : b = true) (h : (execOp a.eval o).run P w = .ok .skip w') (next : K (a.put o.dst undef) w') : if b = true then Oper.wp P o a w K Q else E := by
  rw [if_pos hb]
  unfold Oper.wp
  rw [h]
  exact next
theorem exec_slice18 {P : Program} {w : World} {a : Act} {o : Oper} {t : TypeId} {x : Operand} {lo hi : Option Operand} (ho : o.op = .slice t x lo hi none) {p u : Value} (hx : a.eval x = p) (h : (Instr.sliceAt t p (lo.map a.eval) (hi.map a.eval) none).run P w = .ok u w) : (execOp a.eval o).run P w = .ok (.value u) w := by
  simp [execOp, ho, hx, h, Result.andThen]
theorem slice_str (s : ByteArray) (i j : Nat) (hi : i ≤ j) (hj : j ≤ s.size) (w : World) : (Instr.sliceAt 9 (.string s) (some (.int .i64 (i : Int))) (some (.int .i64 (j : Int))) none).run Tryd.prog w = .ok (.string (s.extract i j)) w := by
  rw [run_sliceAt_string w _ _ _ _ _ Tryd.underlying9, run_slice_string w _ s .i64 .i64 (i : Int) (j : Int) Tryd.underlying9 (by omega) (by omega) (by omega)]
  simp
theorem size_pr18 : (Tryd.prog.info? 59).map (·.size) = some 2 := by kernel_rfl
set_option maxHeartbeats 16000000 in
theorem tGet_any (a : Option Addr) (c : Nat) (l : List (BitVec 8)) (w : World) (hle : l.length ≤ c) (hr : Row w a l) (hn : a = none → c = 0) (hlen : l.length ≤ 140737488351232) :
    Calls Tryd.prog 13 #[.slice a l.length c] w fun e w' => ∃ v, e = .returned (.tuple #[v, .int .i64 (gtR (us l)).2]) ∧ PrI kPr w w' v (gtR (us l)).1 := by
  obtain ⟨n, hnl⟩ : ∃ n, n = l.length := ⟨_, rfl⟩
  rw [← hnl] at hle hlen ⊢
  by_cases h0 : n = 0
  · have hz : l.length = 0 ∨ bt l (l.length - 1) = 0 := .inl (by omega)
    have HR : Hid (gtR (us l) = gtN (us l) [] []) := gtR_go hz
    subst h0
    obtain ⟨s, hs⟩ : ∃ s, s = str l := ⟨_, rfl⟩
    have hcv := hr.str 0 c hnl.symm
    rw [← hs] at hcv
    have hL0 : s.data.toList = us l := by rw [hs, str_us, mkS_list]
    have hsz : s.size = l.length := by have e := congrArg List.length hL0; rw [us_len] at e; rw [← e]; simp
    have hlen2 : l.length ≤ 140737488351232 := by omega
    have HL0 : Hid _ := And.intro hL0 (And.intro hsz hlen2)
    clear hL0 hr hs hz hn hlen hle hlen2 hnl
    have hrg := run_range_string (P := Tryd.prog) w 9 s Tryd.underlying9
    go_enter Tryd.func13, Tryd.ntmps13
    go_wp2
    go_step3
    go_wp2_with fail
    go_step3
    go_wp2_with fail
    go_loopw [4, 6, 7, 8] (fun lv fv mv ev wr => ∃ (pos first : Nat) (mid : Int) (out : List Pr) (x : List UInt8), fv = .int .i64 (first : Int) ∧ mv = .int .i64 mid ∧ ev = .int .i64 0 ∧ GtI w wr s pos lv out ∧ Ln (us l) pos first mid out x) (fun _ _ _ _ wr => s.size - iterPos w.heap.size wr)
    case atStart => exact ⟨0, 0, -1, [], [], rfl, rfl, rfl, GtI.start w s, Ln.start _⟩
    case round =>
      obtain ⟨pos, first, mid, out, x, rfl, rfl, rfl, hG, hL⟩ := hrel
      have hpe := hG.pos_eq
      by_cases hlt : pos < s.size
      · have hUL : (us l).length = s.size := by rw [us_len, HL0.out.2.1]
        have hltL : pos < (us l).length := by omega
        obtain ⟨w2, hn2, hG2⟩ := hG.next hlt 0
        obtain ⟨d1, d2, d3⟩ := dec_facts s pos hlt
        have hix : s[pos]'hlt = (us l)[pos]'hltL := by rw [← get_list hlt (by simp; omega)]; simp only [HL0.out.1]
        have hhi : ∀ j, pos ≤ j → (hj : j < (us l).length) → j < pos + (Utf8.decode s pos).2 → ¬ (s[pos]'hlt).toNat < 128 → 128 ≤ ((us l)[j]'hj).toNat := by
          intro j h1 hj h2 h3
          rcases d3 with ⟨d4, -⟩ | ⟨-, d5⟩
          · exact absurd d4 h3
          · have := d5 j h1 (by omega) h2
            have e : s[j]'(by omega) = (us l)[j]'hj := by rw [← get_list (by omega) (by simp; omega)]; simp only [HL0.out.1]
            rw [e] at this; exact this
        have hcl := hL.few
        obtain ⟨av, cv, rfl, hac, -, -⟩ := hG.at
        have hszI : (s.size : Int) ≤ 140737488351232 := by have := HL0.out.2; omega
        have hcase : (∃ K : Int, (((Utf8.decode s pos).1 : Nat) : Int) = K ∧ K ≠ 0 ∧ ((K = 61 ∧ ¬ mid = -1) ∨ K ≠ 61) ∧ Ln (us l) (pos + (Utf8.decode s pos).2) first mid out (x ++ ((us l).drop pos).take (Utf8.decode s pos).2)) ∨ ((us l)[pos]'hltL = 61 ∧ mid = -1 ∧ Utf8.decode s pos = (61, 1)) ∨ ((us l)[pos]'hltL = 0 ∧ Utf8.decode s pos = (0, 1)) := by
          rcases d3 with ⟨d4, d5⟩ | ⟨d4, d5⟩
          · rw [hix] at d4 d5
            by_cases k0 : (us l)[pos]'hltL = 0
            · exact .inr (.inr ⟨k0, by rw [d5, k0]; rfl⟩)
            · by_cases k1 : (us l)[pos]'hltL = 61 ∧ mid = -1
              · exact .inr (.inl ⟨k1.1, k1.2, by rw [d5, k1.1]; rfl⟩)
              · refine .inl ⟨_, rfl, ?_, ?_, ?_⟩
                · rw [d5]; intro e; exact k0 (UInt8.toNat_inj.1 (by show _ = 0; simp only at e; omega))
                · rw [d5]; by_cases k2 : (us l)[pos]'hltL = 61
                  · exact .inl ⟨by rw [k2]; rfl, fun e => k1 ⟨k2, e⟩⟩
                  · exact .inr (fun e => k2 (UInt8.toNat_inj.1 (by show _ = 61; simp only at e; omega)))
                · rw [d5]; exact hL.over 1 (by omega) (fun c hc => by rw [one_take hltL, List.mem_singleton] at hc; rw [hc]; exact k0) (by
                    by_cases k2 : mid = -1
                    · exact .inr (fun c hc => by rw [one_take hltL, List.mem_singleton] at hc; rw [hc]; exact fun e => k1 ⟨e, k2⟩)
                    · exact .inl k2)
          · refine .inl ⟨_, rfl, by omega, .inr (by omega), hL.over _ (by omega) ?_ (.inr ?_)⟩
            · intro c hc e
              obtain ⟨i, hi, hic⟩ := List.getElem_of_mem hc
              rw [List.getElem_take, List.getElem_drop] at hic
              have hi2 : i < (Utf8.decode s pos).2 := by rw [List.length_take] at hi; omega
              have h128 : ¬ (s[pos]'hlt).toNat < 128 := fun h => by have := decode_ascii s pos hlt h; rw [this] at d4; simp only at d4; omega
              have := hhi (pos + i) (by omega) (by omega) (by omega) h128
              rw [hic, e] at this
              exact absurd this (by decide)
            · intro c hc e
              obtain ⟨i, hi, hic⟩ := List.getElem_of_mem hc
              rw [List.getElem_take, List.getElem_drop] at hic
              have hi2 : i < (Utf8.decode s pos).2 := by rw [List.length_take] at hi; omega
              have h128 : ¬ (s[pos]'hlt).toNat < 128 := fun h => by have := decode_ascii s pos hlt h; rw [this] at d4; simp only at d4; omega
              have := hhi (pos + i) (by omega) (by omega) (by omega) h128
              rw [hic, e] at this
              exact absurd this (by decide)
        clear hhi d3 hix
        rcases hcase with ⟨K, hK, hK0, hK61, hLn⟩ | ⟨hc, hm, hd⟩ | ⟨hc, hd⟩
        · have F : Hid _ := And.intro hG2 (And.intro hLn (And.intro hpe (show pos < pos + (Utf8.decode s pos).2 by omega)))
          rw [hK] at hn2
          have z0 : (K == 0) = false := by simpa using hK0
          clear hG hL hpe hltL hUL hcl hac hG2 hLn hK hK0 d1
          rcases hK61 with ⟨rfl, hm⟩ | hK61
          · have zm : (mid == -1) = false := by simpa using hm
            clear hm
            go_wp2
            go_roundw
            case rel => exact ⟨_, _, _, _, _, rfl, rfl, rfl, F.out.1, F.out.2.1⟩
            case measure => have e1 := F.out.1.pos_eq; have e2 := F.out.2.2.1; have e3 := F.out.2.2.2; rw [e1, e2]; omega
          · have z6 : (K == 61) = false := by simpa using hK61
            clear hK61
            go_wp2
            go_roundw
            case rel => exact ⟨_, _, _, _, _, rfl, rfl, rfl, F.out.1, F.out.2.1⟩
            case measure => have e1 := F.out.1.pos_eq; have e2 := F.out.2.2.1; have e3 := F.out.2.2.2; rw [e1, e2]; omega
        · subst hm
          have hG3 := hG2
          rw [hd] at hG3 hn2 d2
          have F : Hid _ := And.intro hG3 (And.intro (hL.equal hltL hc) (And.intro hpe (Nat.lt_succ_self pos)))
          clear hG hL hpe hltL hUL hcl hac hG2 hG3 hc hd d1
          go_wp2
          go_roundw
          case rel => exact ⟨_, _, _, _, _, rfl, rfl, rfl, F.out.1, F.out.2.1⟩
          case measure => have e1 := F.out.1.pos_eq; have e2 := F.out.2.2.1; have e3 := F.out.2.2.2; rw [e1, e2]; omega
        · have hG3 := hG2
          rw [hd] at hG3 hn2 d2
          by_cases h64 : out.length = 64
          · have F : Hid _ := And.intro (HR.out.trans (hL.full hltL hc h64)) hG3.bel
            have z64 : ((out.length : Int) == 64) = true := by simp; omega
            clear hG hL hpe hltL hUL hcl hac hG2 hG3 hc hd d1 h64
            go_wp2
            (try rw [Exit.noGoto_ret])
            refine bodyPost_ret (v := .tuple #[.slice none 0 0, .int .i64 3]) (by first | rfl | simp [results, Tryd.results13, go_sem]) rfl ?_
            exact ⟨_, by rw [F.out.1], by rw [F.out.1]; exact PrI.none F.out.2⟩
          · have z64 : ((out.length : Int) == 64) = false := by simp; omega
            by_cases hm : mid = -1
            · subst hm
              have F : Hid _ := And.intro (HR.out.trans (hL.nowhere hltL hc h64)) hG3.bel
              clear hG hL hpe hltL hUL hcl hac hG2 hG3 hc hd d1 h64
              go_wp2
              (try rw [Exit.noGoto_ret])
              refine bodyPost_ret (v := .tuple #[.slice none 0 0, .int .i64 11]) (by first | rfl | simp [results, Tryd.results13, go_sem]) rfl ?_
              exact ⟨_, by rw [F.out.1], by rw [F.out.1]; exact PrI.none F.out.2⟩
            · have zm : (mid == -1) = false := by simpa using hm
              obtain ⟨ak, bv, hx, ha, rfl⟩ : ∃ a b, x = a ++ 61 :: b ∧ (∀ c ∈ a, c ≠ 61) ∧ mid = ((first + a.length : Nat) : Int) := by
                rcases hL.mid with ⟨e, -⟩ | h
                · exact absurd e hm
                · exact h
              obtain ⟨p1, p2, p3⟩ := hL.parts hx
              obtain ⟨xk, hxk⟩ : ∃ xk, xk = mkS ak := ⟨_, rfl⟩
              obtain ⟨xv, hxv⟩ : ∃ xv, xv = mkS bv := ⟨_, rfl⟩
              obtain ⟨m, hmn⟩ : ∃ m, m = first + ak.length := ⟨_, rfl⟩
              rw [← hmn] at zm p1 p2 p3 ⊢
              have e1 : s.extract first m = xk := by rw [ext_list, HL0.out.1, p2, hxk]
              have e2 : s.extract (m + 1) pos = xv := by rw [ext_list, HL0.out.1, p3, hxv]
              have s1 : ∀ W, (Instr.sliceAt 9 (.string s) (some (.int .i64 (first : Int))) (some (.int .i64 (m : Int))) none).run Tryd.prog W = .ok (.string xk) W := fun W => by rw [slice_str s first m (by omega) (by omega), e1]
              have s2 : ∀ W, (Instr.sliceAt 9 (.string s) (some (.int .i64 ((m : Int) + 1))) (some (.int .i64 (pos : Int))) none).run Tryd.prog W = .ok (.string xv) W := fun W => by have := slice_str s (m + 1) pos (by omega) (by omega) W; rw [e2] at this; exact this
              have w1 : IntKind.i64.wrap ((m : Int) + 1) = (m : Int) + 1 := by rw [IntKind.wrap_i64]; omega
              have HB : Hid (okL out (xk, xv) = false → gtR (us l) = ([], 11)) := (fun h => HR.out.trans (hL.bad hltL hc h64 hx ha (by rw [← hxk, ← hxv]; exact h)) : okL out (xk, xv) = false → _)
              have HO : Hid (okL out (xk, xv) = true → Ln (us l) (pos + 1) (pos + 1) (-1) (out ++ [(xk, xv)]) []) := (fun h => by have := hL.next hltL hc h64 hx ha (by rw [← hxk, ← hxv]; exact h); rw [← hxk, ← hxv] at this; exact this : okL out (xk, xv) = true → _)
              have HQ : Hid _ := And.intro hG3 (And.intro hpe hcl)
              have S12 : Hid _ := And.intro s1 s2
              have hokd : okL out (xk, xv) = (canP (xk, xv) && !(out.any fun q => decide (q.1 = xk))) := rfl
              have hcpd : canP (xk, xv) = (keyB18 xk.data.toList && valB18 xv.data.toList) := rfl
              clear s1 s2 e1 e2 p1 p2 p3 hx ha hL hG hG2 hG3 hpe hltL hUL hcl hc hd d1 h64 hm hxk hxv hmn
              have N0 := (Blk.new' w2 59 [.string ⟨#[]⟩, .string ⟨#[]⟩]).laterB (Below.refl _ _).drew
              have b0 : Below w2.heap.size w2 ((w2.alloc (.cells #[.string ⟨#[]⟩, .string ⟨#[]⟩] 59)).drew) := ((Below.refl _ _).alloc (Nat.le_refl _) _).drew
              obtain ⟨w3, hw3⟩ : ∃ w3, w3 = (w2.alloc (.cells #[.string ⟨#[]⟩, .string ⟨#[]⟩] 59)).drew := ⟨_, rfl⟩
              rw [← hw3] at N0 b0
              obtain ⟨w4, st, N4, g4⟩ := storeW (T := 59) (vs := [.string xk, .string xv]) size_pr18 N0 rfl (fun u hu => by simp at hu; rcases hu with rfl | rfl <;> rfl)
              have b4 : Below w2.heap.size w2 w4 := b0.grown g4 b0.size (fun k e => by cases e; exact Nat.le_refl _)
              have HW : Hid _ := And.intro b0 (And.intro b4 (And.intro N4 st))
              go_upto_region 16 with fail
              refine wp_region_held_drew (S := fun W => Below w2.heap.size w2 W) (by kernel_rfl) (by exact (Below.refl _ _).drew) (fun hS => ?_)
              refine any_take (i := 0) (v := ?_) rfl (by kernel_rfl) (by kernel_rfl) (by kernel_rfl) (by exact fun _ _ _ h => h) (by rfl) ?_ hS ?_
              rotate_left
              · ((intro w hSw; skip; go_simp) <;> with_reducible rfl)
              (try simp only [Act.put, List.setIfInBounds_toArray, List.set_cons_zero, List.set_cons_succ])
              refine any_take (i := 1) (v := ?_) rfl (by kernel_rfl) (by kernel_rfl) (by kernel_rfl) (by exact fun _ _ _ h => h) (by rfl) ?_ hS ?_
              rotate_left
              · ((intro w hSw; skip; go_simp) <;> with_reducible rfl)
              (try simp only [Act.put, List.setIfInBounds_toArray, List.set_cons_zero, List.set_cons_succ])
              refine any_take (i := 2) (v := ?_) rfl (by kernel_rfl) (by kernel_rfl) (by kernel_rfl) (by exact fun _ _ _ h => h) (by rfl) ?_ hS ?_
              rotate_left
              · ((intro w hSw; skip; go_simp) <;> with_reducible rfl)
              (try simp only [Act.put, List.setIfInBounds_toArray, List.set_cons_zero, List.set_cons_succ])
              refine any_take (i := 3) (v := .string xk) rfl (by kernel_rfl) (by kernel_rfl) (by kernel_rfl) (by exact fun _ _ _ h => h) (by rfl) ?_ hS ?_
              · intro W hSW; exact exec_slice18 rfl rfl (S12.out.1 W)
              (try simp only [Act.put, List.setIfInBounds_toArray, List.set_cons_zero, List.set_cons_succ])
              refine any_take (i := 4) (v := ?_) rfl (by kernel_rfl) (by kernel_rfl) (by kernel_rfl) (by exact fun _ _ _ h => h) (by rfl) ?_ hS ?_
              rotate_left
              · ((intro w hSw; skip; go_simp) <;> with_reducible rfl)
              (try simp only [Act.put, List.setIfInBounds_toArray, List.set_cons_zero, List.set_cons_succ])
              refine any_take (i := 5) (v := ?_) rfl (by kernel_rfl) (by kernel_rfl) (by kernel_rfl) (by exact fun _ _ _ h => h) (by rfl) ?_ hS ?_
              rotate_left
              · ((intro w hSw; skip; go_simp) <;> with_reducible rfl)
              (try simp only [Act.put, List.setIfInBounds_toArray, List.set_cons_zero, List.set_cons_succ])
              refine any_take (i := 6) (v := ?_) rfl (by kernel_rfl) (by kernel_rfl) (by kernel_rfl) (by exact fun _ _ _ h => h) (by rfl) ?_ hS ?_
              rotate_left
              · ((intro w hSw; skip; go_simp) <;> with_reducible rfl)
              (try simp only [Act.put, List.setIfInBounds_toArray, List.set_cons_zero, List.set_cons_succ])
              refine any_take (i := 7) (v := ?_) rfl (by kernel_rfl) (by kernel_rfl) (by kernel_rfl) (by exact fun _ _ _ h => h) (by rfl) ?_ hS ?_
              rotate_left
              · ((intro w hSw; skip; go_simp) <;> with_reducible rfl)
              (try simp only [Act.put, List.setIfInBounds_toArray, List.set_cons_zero, List.set_cons_succ])
              refine any_take (i := 8) (v := .string xv) rfl (by kernel_rfl) (by kernel_rfl) (by kernel_rfl) (by exact fun _ _ _ h => h) (by rfl) ?_ hS ?_
              · intro W hSW; exact exec_slice18 rfl rfl (S12.out.2 W)
              (try simp only [Act.put, List.setIfInBounds_toArray, List.set_cons_zero, List.set_cons_succ])
              refine any_take (i := 9) (v := ?_) rfl (by kernel_rfl) (by kernel_rfl) (by kernel_rfl) (by exact fun _ _ _ h => h) (by rfl) ?_ hS ?_
              rotate_left
              · ((intro w hSw; skip; go_simp) <;> with_reducible rfl)
              (try simp only [Act.put, List.setIfInBounds_toArray, List.set_cons_zero, List.set_cons_succ])
              refine any_one (i := 10) rfl (by kernel_rfl) (fun K hK => ?_)
              go_simp
              rw [← hw3]
              refine hK.out _ _ (HW.out.1) ?_
              clear hK K hS
              have hS := HW.out.1
              refine any_one (i := 11) rfl (by kernel_rfl) (fun K hK => ?_)
              refine step_skip18 (by rfl) (exec_store rfl rfl rfl st) ?_
              refine hK.out _ _ (HW.out.2.1) ?_
              clear hK K hS
              refine wpAnyH_done (by kernel_rfl) ?_ _
              have G4 := HQ.out.1.later b4
              have y0 := ck_at N4 0
              have y1 := ck_at N4 1
              simp only [List.getElem?_cons_zero, List.getElem?_cons_succ] at y0 y1
              obtain ⟨av2, cv2, ee, -, -, hat⟩ := G4.at
              cases ee
              have H4 : Hid _ := And.intro G4 (And.intro hat N4)
              clear G4 hat N4 N0 b0 g4 st b4 hw3 HW
              have HC : Hid _ := tCanBe_any xk xv w4
              have hcn : canP (xk, xv) = true ∨ canP (xk, xv) = false := by cases canP (xk, xv) <;> simp
              rw [← hcpd] at HC
              clear hcpd
              rcases hcn with hcn | hcn
              · rw [hcn] at HC hokd
                clear hcn
                go_wp2_with fail
                refine (Calls.mono HC.out) ?_
                rintro e w5 ⟨rfl, b5⟩
                clear HC
                have y2 := ck_later y0 b5
                have G5 := H4.out.1.later b5
                have HT : Hid _ := tStands_any av cv out xk w5 (gat_later b5 H4.out.2.1) (by have := HQ.out.2.2; omega)
                have N5 := H4.out.2.2.laterB b5
                have H5 : Hid _ := And.intro G5 N5
                clear G5 N5 H4 y0 y1 b5
                generalize han : (out.any fun q => decide (q.1 = xk)) = an at *
                cases an
                · have ok : okL out (xk, xv) = true := hokd.trans rfl
                  have hLn := HO.out ok
                  clear ok hokd HB HO han
                  go_wp2_with fail
                  refine (Calls.mono HT.out) ?_
                  rintro e w6 ⟨rfl, b6⟩
                  clear HT
                  have G6 := H5.out.1.later b6
                  have N6 := H5.out.2.laterB b6
                  have y0 := ck_at N6 0
                  have y1 := ck_at N6 1
                  simp only [List.getElem?_cons_zero, List.getElem?_cons_succ] at y0 y1
                  clear y2
                  obtain ⟨v7, w7, hap, G7⟩ := G6.more (xk, xv) HQ.out.2.2
                  obtain ⟨a7, c7, ee7, -, -, -⟩ := G7.at
                  subst ee7
                  have ll : (out ++ [(xk, xv)]).length = out.length + 1 := by simp
                  rw [ll] at G7 hap
                  clear ll
                  have F : Hid _ := And.intro G7 (And.intro hLn (And.intro HQ.out.2.1 (Nat.lt_succ_self pos)))
                  have w8 : IntKind.i64.wrap ((pos : Int) + 1) = (pos : Int) + 1 := by rw [IntKind.wrap_i64]; omega
                  clear G6 N6 G7 hLn H5 HQ b6
                  go_wp2_with (at_builtin; refine wpList_run_app rfl _ _ 28 28 rfl _ _ rfl rfl hap ?_)
                  go_wp2
                  go_roundw
                  case rel => exact ⟨_, _, _, _, _, rfl, rfl, rfl, F.out.1, F.out.2.1⟩
                  case measure => have e1 := F.out.1.pos_eq; have e2 := F.out.2.2.1; have e3 := F.out.2.2.2; rw [e1, e2]; omega
                · have ok : okL out (xk, xv) = false := hokd.trans rfl
                  have F : Hid _ := And.intro (HB.out ok) H5.out.1.bel
                  clear ok hokd HB HO han H5 HQ
                  go_wp2_with fail
                  refine (Calls.mono HT.out) ?_
                  rintro e w6 ⟨rfl, b6⟩
                  clear HT
                  have F2 : Hid _ := below_then F.out.2 b6
                  clear b6 y2
                  go_wp2
                  (try rw [Exit.noGoto_ret])
                  refine bodyPost_ret (v := .tuple #[.slice none 0 0, .int .i64 11]) (by first | rfl | simp [results, Tryd.results13, go_sem]) rfl ?_
                  exact ⟨_, by rw [F.out.1], by rw [F.out.1]; exact PrI.none F2.out⟩
              · rw [hcn] at HC hokd
                have ok : okL out (xk, xv) = false := hokd.trans rfl
                have F : Hid _ := And.intro (HB.out ok) H4.out.1.bel
                clear ok hokd HB HO hcn H4 HQ
                go_wp2_with fail
                refine (Calls.mono HC.out) ?_
                rintro e w5 ⟨rfl, b5⟩
                clear HC
                have F2 : Hid _ := below_then F.out.2 b5
                clear b5 y0 y1
                go_wp2
                (try rw [Exit.noGoto_ret])
                refine bodyPost_ret (v := .tuple #[.slice none 0 0, .int .i64 11]) (by first | rfl | simp [results, Tryd.results13, go_sem]) rfl ?_
                exact ⟨_, by rw [F.out.1], by rw [F.out.1]; exact PrI.none F2.out⟩
      · have hn2 := hG.stop hlt 0
        have F : Hid _ := And.intro (HR.out.trans (hL.done (by rw [us_len, ← HL0.out.2.1]; exact hlt))) hG.pri
        obtain ⟨av, cv, rfl, -, -, -⟩ := hG.at
        clear hG hL hpe
        go_wp2
        (try rw [Exit.noGoto_ret])
        refine bodyPost_ret (v := .tuple #[.slice av out.length cv, .int .i64 0]) (by first | rfl | simp [results, Tryd.results13, go_sem]) rfl ?_
        exact ⟨_, by rw [F.out.1], by rw [F.out.1]; exact F.out.2⟩
  · rcases hr with rfl | ⟨b, off, rfl, hc⟩
    · exact absurd (hnl.trans rfl) h0
    have hcl := hc (l.length - 1) (by omega)
    have hr : Row w (some ⟨b, off, none⟩) l := .inr ⟨b, off, rfl, hc⟩
    clear hc
    rw [← hnl] at hcl
    have q9 : 0 < n := by omega
    have w0 : IntKind.i64.wrap ((n : Int) - 1) = ((n - 1 : Nat) : Int) := by rw [IntKind.wrap_i64]; omega
    have q2 : n - 1 < n := by omega
    by_cases hzb : bt l (n - 1) = 0
    · have hz : l.length = 0 ∨ bt l (l.length - 1) = 0 := .inr (by rw [← hnl]; exact hzb)
      rw [hzb] at hcl
      clear hzb h0
      have HR : Hid (gtR (us l) = gtN (us l) [] []) := gtR_go hz
      obtain ⟨s, hs⟩ : ∃ s, s = str l := ⟨_, rfl⟩
      have hcv := hr.str n c hnl.symm
      rw [← hs] at hcv
      have hL0 : s.data.toList = us l := by rw [hs, str_us, mkS_list]
      have hsz : s.size = l.length := by have e := congrArg List.length hL0; rw [us_len] at e; rw [← e]; simp
      have hlen2 : l.length ≤ 140737488351232 := by omega
      have HL0 : Hid _ := And.intro hL0 (And.intro hsz hlen2)
      clear hL0 hr hs hz hn hlen hle hlen2 hnl
      have hrg := run_range_string (P := Tryd.prog) w 9 s Tryd.underlying9
      go_enter Tryd.func13, Tryd.ntmps13
      go_wp2
      go_step3
      go_wp2_with fail
      go_step3
      go_wp2_with fail
      go_loopw [4, 6, 7, 8] (fun lv fv mv ev wr => ∃ (pos first : Nat) (mid : Int) (out : List Pr) (x : List UInt8), fv = .int .i64 (first : Int) ∧ mv = .int .i64 mid ∧ ev = .int .i64 0 ∧ GtI w wr s pos lv out ∧ Ln (us l) pos first mid out x) (fun _ _ _ _ wr => s.size - iterPos w.heap.size wr)
      case atStart => exact ⟨0, 0, -1, [], [], rfl, rfl, rfl, GtI.start w s, Ln.start _⟩
      case round =>
        obtain ⟨pos, first, mid, out, x, rfl, rfl, rfl, hG, hL⟩ := hrel
        have hpe := hG.pos_eq
        by_cases hlt : pos < s.size
        · have hUL : (us l).length = s.size := by rw [us_len, HL0.out.2.1]
          have hltL : pos < (us l).length := by omega
          obtain ⟨w2, hn2, hG2⟩ := hG.next hlt 0
          obtain ⟨d1, d2, d3⟩ := dec_facts s pos hlt
          have hix : s[pos]'hlt = (us l)[pos]'hltL := by rw [← get_list hlt (by simp; omega)]; simp only [HL0.out.1]
          have hhi : ∀ j, pos ≤ j → (hj : j < (us l).length) → j < pos + (Utf8.decode s pos).2 → ¬ (s[pos]'hlt).toNat < 128 → 128 ≤ ((us l)[j]'hj).toNat := by
            intro j h1 hj h2 h3
            rcases d3 with ⟨d4, -⟩ | ⟨-, d5⟩
            · exact absurd d4 h3
            · have := d5 j h1 (by omega) h2
              have e : s[j]'(by omega) = (us l)[j]'hj := by rw [← get_list (by omega) (by simp; omega)]; simp only [HL0.out.1]
              rw [e] at this; exact this
          have hcl := hL.few
          obtain ⟨av, cv, rfl, hac, -, -⟩ := hG.at
          have hszI : (s.size : Int) ≤ 140737488351232 := by have := HL0.out.2; omega
          have hcase : (∃ K : Int, (((Utf8.decode s pos).1 : Nat) : Int) = K ∧ K ≠ 0 ∧ ((K = 61 ∧ ¬ mid = -1) ∨ K ≠ 61) ∧ Ln (us l) (pos + (Utf8.decode s pos).2) first mid out (x ++ ((us l).drop pos).take (Utf8.decode s pos).2)) ∨ ((us l)[pos]'hltL = 61 ∧ mid = -1 ∧ Utf8.decode s pos = (61, 1)) ∨ ((us l)[pos]'hltL = 0 ∧ Utf8.decode s pos = (0, 1)) := by
            rcases d3 with ⟨d4, d5⟩ | ⟨d4, d5⟩
            · rw [hix] at d4 d5
              by_cases k0 : (us l)[pos]'hltL = 0
              · exact .inr (.inr ⟨k0, by rw [d5, k0]; rfl⟩)
              · by_cases k1 : (us l)[pos]'hltL = 61 ∧ mid = -1
                · exact .inr (.inl ⟨k1.1, k1.2, by rw [d5, k1.1]; rfl⟩)
                · refine .inl ⟨_, rfl, ?_, ?_, ?_⟩
                  · rw [d5]; intro e; exact k0 (UInt8.toNat_inj.1 (by show _ = 0; simp only at e; omega))
                  · rw [d5]; by_cases k2 : (us l)[pos]'hltL = 61
                    · exact .inl ⟨by rw [k2]; rfl, fun e => k1 ⟨k2, e⟩⟩
                    · exact .inr (fun e => k2 (UInt8.toNat_inj.1 (by show _ = 61; simp only at e; omega)))
                  · rw [d5]; exact hL.over 1 (by omega) (fun c hc => by rw [one_take hltL, List.mem_singleton] at hc; rw [hc]; exact k0) (by
                      by_cases k2 : mid = -1
                      · exact .inr (fun c hc => by rw [one_take hltL, List.mem_singleton] at hc; rw [hc]; exact fun e => k1 ⟨e, k2⟩)
                      · exact .inl k2)
            · refine .inl ⟨_, rfl, by omega, .inr (by omega), hL.over _ (by omega) ?_ (.inr ?_)⟩
              · intro c hc e
                obtain ⟨i, hi, hic⟩ := List.getElem_of_mem hc
                rw [List.getElem_take, List.getElem_drop] at hic
                have hi2 : i < (Utf8.decode s pos).2 := by rw [List.length_take] at hi; omega
                have h128 : ¬ (s[pos]'hlt).toNat < 128 := fun h => by have := decode_ascii s pos hlt h; rw [this] at d4; simp only at d4; omega
                have := hhi (pos + i) (by omega) (by omega) (by omega) h128
                rw [hic, e] at this
                exact absurd this (by decide)
              · intro c hc e
                obtain ⟨i, hi, hic⟩ := List.getElem_of_mem hc
                rw [List.getElem_take, List.getElem_drop] at hic
                have hi2 : i < (Utf8.decode s pos).2 := by rw [List.length_take] at hi; omega
                have h128 : ¬ (s[pos]'hlt).toNat < 128 := fun h => by have := decode_ascii s pos hlt h; rw [this] at d4; simp only at d4; omega
                have := hhi (pos + i) (by omega) (by omega) (by omega) h128
                rw [hic, e] at this
                exact absurd this (by decide)
          clear hhi d3 hix
          rcases hcase with ⟨K, hK, hK0, hK61, hLn⟩ | ⟨hc, hm, hd⟩ | ⟨hc, hd⟩
          · have F : Hid _ := And.intro hG2 (And.intro hLn (And.intro hpe (show pos < pos + (Utf8.decode s pos).2 by omega)))
            rw [hK] at hn2
            have z0 : (K == 0) = false := by simpa using hK0
            clear hG hL hpe hltL hUL hcl hac hG2 hLn hK hK0 d1
            rcases hK61 with ⟨rfl, hm⟩ | hK61
            · have zm : (mid == -1) = false := by simpa using hm
              clear hm
              go_wp2
              go_roundw
              case rel => exact ⟨_, _, _, _, _, rfl, rfl, rfl, F.out.1, F.out.2.1⟩
              case measure => have e1 := F.out.1.pos_eq; have e2 := F.out.2.2.1; have e3 := F.out.2.2.2; rw [e1, e2]; omega
            · have z6 : (K == 61) = false := by simpa using hK61
              clear hK61
              go_wp2
              go_roundw
              case rel => exact ⟨_, _, _, _, _, rfl, rfl, rfl, F.out.1, F.out.2.1⟩
              case measure => have e1 := F.out.1.pos_eq; have e2 := F.out.2.2.1; have e3 := F.out.2.2.2; rw [e1, e2]; omega
          · subst hm
            have hG3 := hG2
            rw [hd] at hG3 hn2 d2
            have F : Hid _ := And.intro hG3 (And.intro (hL.equal hltL hc) (And.intro hpe (Nat.lt_succ_self pos)))
            clear hG hL hpe hltL hUL hcl hac hG2 hG3 hc hd d1
            go_wp2
            go_roundw
            case rel => exact ⟨_, _, _, _, _, rfl, rfl, rfl, F.out.1, F.out.2.1⟩
            case measure => have e1 := F.out.1.pos_eq; have e2 := F.out.2.2.1; have e3 := F.out.2.2.2; rw [e1, e2]; omega
          · have hG3 := hG2
            rw [hd] at hG3 hn2 d2
            by_cases h64 : out.length = 64
            · have F : Hid _ := And.intro (HR.out.trans (hL.full hltL hc h64)) hG3.bel
              have z64 : ((out.length : Int) == 64) = true := by simp; omega
              clear hG hL hpe hltL hUL hcl hac hG2 hG3 hc hd d1 h64
              go_wp2
              (try rw [Exit.noGoto_ret])
              refine bodyPost_ret (v := .tuple #[.slice none 0 0, .int .i64 3]) (by first | rfl | simp [results, Tryd.results13, go_sem]) rfl ?_
              exact ⟨_, by rw [F.out.1], by rw [F.out.1]; exact PrI.none F.out.2⟩
            · have z64 : ((out.length : Int) == 64) = false := by simp; omega
              by_cases hm : mid = -1
              · subst hm
                have F : Hid _ := And.intro (HR.out.trans (hL.nowhere hltL hc h64)) hG3.bel
                clear hG hL hpe hltL hUL hcl hac hG2 hG3 hc hd d1 h64
                go_wp2
                (try rw [Exit.noGoto_ret])
                refine bodyPost_ret (v := .tuple #[.slice none 0 0, .int .i64 11]) (by first | rfl | simp [results, Tryd.results13, go_sem]) rfl ?_
                exact ⟨_, by rw [F.out.1], by rw [F.out.1]; exact PrI.none F.out.2⟩
              · have zm : (mid == -1) = false := by simpa using hm
                obtain ⟨ak, bv, hx, ha, rfl⟩ : ∃ a b, x = a ++ 61 :: b ∧ (∀ c ∈ a, c ≠ 61) ∧ mid = ((first + a.length : Nat) : Int) := by
                  rcases hL.mid with ⟨e, -⟩ | h
                  · exact absurd e hm
                  · exact h
                obtain ⟨p1, p2, p3⟩ := hL.parts hx
                obtain ⟨xk, hxk⟩ : ∃ xk, xk = mkS ak := ⟨_, rfl⟩
                obtain ⟨xv, hxv⟩ : ∃ xv, xv = mkS bv := ⟨_, rfl⟩
                obtain ⟨m, hmn⟩ : ∃ m, m = first + ak.length := ⟨_, rfl⟩
                rw [← hmn] at zm p1 p2 p3 ⊢
                have e1 : s.extract first m = xk := by rw [ext_list, HL0.out.1, p2, hxk]
                have e2 : s.extract (m + 1) pos = xv := by rw [ext_list, HL0.out.1, p3, hxv]
                have s1 : ∀ W, (Instr.sliceAt 9 (.string s) (some (.int .i64 (first : Int))) (some (.int .i64 (m : Int))) none).run Tryd.prog W = .ok (.string xk) W := fun W => by rw [slice_str s first m (by omega) (by omega), e1]
                have s2 : ∀ W, (Instr.sliceAt 9 (.string s) (some (.int .i64 ((m : Int) + 1))) (some (.int .i64 (pos : Int))) none).run Tryd.prog W = .ok (.string xv) W := fun W => by have := slice_str s (m + 1) pos (by omega) (by omega) W; rw [e2] at this; exact this
                have w1 : IntKind.i64.wrap ((m : Int) + 1) = (m : Int) + 1 := by rw [IntKind.wrap_i64]; omega
                have HB : Hid (okL out (xk, xv) = false → gtR (us l) = ([], 11)) := (fun h => HR.out.trans (hL.bad hltL hc h64 hx ha (by rw [← hxk, ← hxv]; exact h)) : okL out (xk, xv) = false → _)
                have HO : Hid (okL out (xk, xv) = true → Ln (us l) (pos + 1) (pos + 1) (-1) (out ++ [(xk, xv)]) []) := (fun h => by have := hL.next hltL hc h64 hx ha (by rw [← hxk, ← hxv]; exact h); rw [← hxk, ← hxv] at this; exact this : okL out (xk, xv) = true → _)
                have HQ : Hid _ := And.intro hG3 (And.intro hpe hcl)
                have S12 : Hid _ := And.intro s1 s2
                have hokd : okL out (xk, xv) = (canP (xk, xv) && !(out.any fun q => decide (q.1 = xk))) := rfl
                have hcpd : canP (xk, xv) = (keyB18 xk.data.toList && valB18 xv.data.toList) := rfl
                clear s1 s2 e1 e2 p1 p2 p3 hx ha hL hG hG2 hG3 hpe hltL hUL hcl hc hd d1 h64 hm hxk hxv hmn
                have N0 := (Blk.new' w2 59 [.string ⟨#[]⟩, .string ⟨#[]⟩]).laterB (Below.refl _ _).drew
                have b0 : Below w2.heap.size w2 ((w2.alloc (.cells #[.string ⟨#[]⟩, .string ⟨#[]⟩] 59)).drew) := ((Below.refl _ _).alloc (Nat.le_refl _) _).drew
                obtain ⟨w3, hw3⟩ : ∃ w3, w3 = (w2.alloc (.cells #[.string ⟨#[]⟩, .string ⟨#[]⟩] 59)).drew := ⟨_, rfl⟩
                rw [← hw3] at N0 b0
                obtain ⟨w4, st, N4, g4⟩ := storeW (T := 59) (vs := [.string xk, .string xv]) size_pr18 N0 rfl (fun u hu => by simp at hu; rcases hu with rfl | rfl <;> rfl)
                have b4 : Below w2.heap.size w2 w4 := b0.grown g4 b0.size (fun k e => by cases e; exact Nat.le_refl _)
                have HW : Hid _ := And.intro b0 (And.intro b4 (And.intro N4 st))
                go_upto_region 16 with fail
                refine wp_region_held_drew (S := fun W => Below w2.heap.size w2 W) (by kernel_rfl) (by exact (Below.refl _ _).drew) (fun hS => ?_)
                refine any_take (i := 0) (v := ?_) rfl (by kernel_rfl) (by kernel_rfl) (by kernel_rfl) (by exact fun _ _ _ h => h) (by rfl) ?_ hS ?_
                rotate_left
                · ((intro w hSw; skip; go_simp) <;> with_reducible rfl)
                (try simp only [Act.put, List.setIfInBounds_toArray, List.set_cons_zero, List.set_cons_succ])
                refine any_take (i := 1) (v := ?_) rfl (by kernel_rfl) (by kernel_rfl) (by kernel_rfl) (by exact fun _ _ _ h => h) (by rfl) ?_ hS ?_
                rotate_left
                · ((intro w hSw; skip; go_simp) <;> with_reducible rfl)
                (try simp only [Act.put, List.setIfInBounds_toArray, List.set_cons_zero, List.set_cons_succ])
                refine any_take (i := 2) (v := ?_) rfl (by kernel_rfl) (by kernel_rfl) (by kernel_rfl) (by exact fun _ _ _ h => h) (by rfl) ?_ hS ?_
                rotate_left
                · ((intro w hSw; skip; go_simp) <;> with_reducible rfl)
                (try simp only [Act.put, List.setIfInBounds_toArray, List.set_cons_zero, List.set_cons_succ])
                refine any_take (i := 3) (v := .string xk) rfl (by kernel_rfl) (by kernel_rfl) (by kernel_rfl) (by exact fun _ _ _ h => h) (by rfl) ?_ hS ?_
                · intro W hSW; exact exec_slice18 rfl rfl (S12.out.1 W)
                (try simp only [Act.put, List.setIfInBounds_toArray, List.set_cons_zero, List.set_cons_succ])
                refine any_take (i := 4) (v := ?_) rfl (by kernel_rfl) (by kernel_rfl) (by kernel_rfl) (by exact fun _ _ _ h => h) (by rfl) ?_ hS ?_
                rotate_left
                · ((intro w hSw; skip; go_simp) <;> with_reducible rfl)
                (try simp only [Act.put, List.setIfInBounds_toArray, List.set_cons_zero, List.set_cons_succ])
                refine any_take (i := 5) (v := ?_) rfl (by kernel_rfl) (by kernel_rfl) (by kernel_rfl) (by exact fun _ _ _ h => h) (by rfl) ?_ hS ?_
                rotate_left
                · ((intro w hSw; skip; go_simp) <;> with_reducible rfl)
                (try simp only [Act.put, List.setIfInBounds_toArray, List.set_cons_zero, List.set_cons_succ])
                refine any_take (i := 6) (v := ?_) rfl (by kernel_rfl) (by kernel_rfl) (by kernel_rfl) (by exact fun _ _ _ h => h) (by rfl) ?_ hS ?_
                rotate_left
                · ((intro w hSw; skip; go_simp) <;> with_reducible rfl)
                (try simp only [Act.put, List.setIfInBounds_toArray, List.set_cons_zero, List.set_cons_succ])
                refine any_take (i := 7) (v := ?_) rfl (by kernel_rfl) (by kernel_rfl) (by kernel_rfl) (by exact fun _ _ _ h => h) (by rfl) ?_ hS ?_
                rotate_left
                · ((intro w hSw; skip; go_simp) <;> with_reducible rfl)
                (try simp only [Act.put, List.setIfInBounds_toArray, List.set_cons_zero, List.set_cons_succ])
                refine any_take (i := 8) (v := .string xv) rfl (by kernel_rfl) (by kernel_rfl) (by kernel_rfl) (by exact fun _ _ _ h => h) (by rfl) ?_ hS ?_
                · intro W hSW; exact exec_slice18 rfl rfl (S12.out.2 W)
                (try simp only [Act.put, List.setIfInBounds_toArray, List.set_cons_zero, List.set_cons_succ])
                refine any_take (i := 9) (v := ?_) rfl (by kernel_rfl) (by kernel_rfl) (by kernel_rfl) (by exact fun _ _ _ h => h) (by rfl) ?_ hS ?_
                rotate_left
                · ((intro w hSw; skip; go_simp) <;> with_reducible rfl)
                (try simp only [Act.put, List.setIfInBounds_toArray, List.set_cons_zero, List.set_cons_succ])
                refine any_one (i := 10) rfl (by kernel_rfl) (fun K hK => ?_)
                go_simp
                rw [← hw3]
                refine hK.out _ _ (HW.out.1) ?_
                clear hK K hS
                have hS := HW.out.1
                refine any_one (i := 11) rfl (by kernel_rfl) (fun K hK => ?_)
                refine step_skip18 (by rfl) (exec_store rfl rfl rfl st) ?_
                refine hK.out _ _ (HW.out.2.1) ?_
                clear hK K hS
                refine wpAnyH_done (by kernel_rfl) ?_ _
                have G4 := HQ.out.1.later b4
                have y0 := ck_at N4 0
                have y1 := ck_at N4 1
                simp only [List.getElem?_cons_zero, List.getElem?_cons_succ] at y0 y1
                obtain ⟨av2, cv2, ee, -, -, hat⟩ := G4.at
                cases ee
                have H4 : Hid _ := And.intro G4 (And.intro hat N4)
                clear G4 hat N4 N0 b0 g4 st b4 hw3 HW
                have HC : Hid _ := tCanBe_any xk xv w4
                have hcn : canP (xk, xv) = true ∨ canP (xk, xv) = false := by cases canP (xk, xv) <;> simp
                rw [← hcpd] at HC
                clear hcpd
                rcases hcn with hcn | hcn
                · rw [hcn] at HC hokd
                  clear hcn
                  go_wp2_with fail
                  refine (Calls.mono HC.out) ?_
                  rintro e w5 ⟨rfl, b5⟩
                  clear HC
                  have y2 := ck_later y0 b5
                  have G5 := H4.out.1.later b5
                  have HT : Hid _ := tStands_any av cv out xk w5 (gat_later b5 H4.out.2.1) (by have := HQ.out.2.2; omega)
                  have N5 := H4.out.2.2.laterB b5
                  have H5 : Hid _ := And.intro G5 N5
                  clear G5 N5 H4 y0 y1 b5
                  generalize han : (out.any fun q => decide (q.1 = xk)) = an at *
                  cases an
                  · have ok : okL out (xk, xv) = true := hokd.trans rfl
                    have hLn := HO.out ok
                    clear ok hokd HB HO han
                    go_wp2_with fail
                    refine (Calls.mono HT.out) ?_
                    rintro e w6 ⟨rfl, b6⟩
                    clear HT
                    have G6 := H5.out.1.later b6
                    have N6 := H5.out.2.laterB b6
                    have y0 := ck_at N6 0
                    have y1 := ck_at N6 1
                    simp only [List.getElem?_cons_zero, List.getElem?_cons_succ] at y0 y1
                    clear y2
                    obtain ⟨v7, w7, hap, G7⟩ := G6.more (xk, xv) HQ.out.2.2
                    obtain ⟨a7, c7, ee7, -, -, -⟩ := G7.at
                    subst ee7
                    have ll : (out ++ [(xk, xv)]).length = out.length + 1 := by simp
                    rw [ll] at G7 hap
                    clear ll
                    have F : Hid _ := And.intro G7 (And.intro hLn (And.intro HQ.out.2.1 (Nat.lt_succ_self pos)))
                    have w8 : IntKind.i64.wrap ((pos : Int) + 1) = (pos : Int) + 1 := by rw [IntKind.wrap_i64]; omega
                    clear G6 N6 G7 hLn H5 HQ b6
                    go_wp2_with (at_builtin; refine wpList_run_app rfl _ _ 28 28 rfl _ _ rfl rfl hap ?_)
                    go_wp2
                    go_roundw
                    case rel => exact ⟨_, _, _, _, _, rfl, rfl, rfl, F.out.1, F.out.2.1⟩
                    case measure => have e1 := F.out.1.pos_eq; have e2 := F.out.2.2.1; have e3 := F.out.2.2.2; rw [e1, e2]; omega
                  · have ok : okL out (xk, xv) = false := hokd.trans rfl
                    have F : Hid _ := And.intro (HB.out ok) H5.out.1.bel
                    clear ok hokd HB HO han H5 HQ
                    go_wp2_with fail
                    refine (Calls.mono HT.out) ?_
                    rintro e w6 ⟨rfl, b6⟩
                    clear HT
                    have F2 : Hid _ := below_then F.out.2 b6
                    clear b6 y2
                    go_wp2
                    (try rw [Exit.noGoto_ret])
                    refine bodyPost_ret (v := .tuple #[.slice none 0 0, .int .i64 11]) (by first | rfl | simp [results, Tryd.results13, go_sem]) rfl ?_
                    exact ⟨_, by rw [F.out.1], by rw [F.out.1]; exact PrI.none F2.out⟩
                · rw [hcn] at HC hokd
                  have ok : okL out (xk, xv) = false := hokd.trans rfl
                  have F : Hid _ := And.intro (HB.out ok) H4.out.1.bel
                  clear ok hokd HB HO hcn H4 HQ
                  go_wp2_with fail
                  refine (Calls.mono HC.out) ?_
                  rintro e w5 ⟨rfl, b5⟩
                  clear HC
                  have F2 : Hid _ := below_then F.out.2 b5
                  clear b5 y0 y1
                  go_wp2
                  (try rw [Exit.noGoto_ret])
                  refine bodyPost_ret (v := .tuple #[.slice none 0 0, .int .i64 11]) (by first | rfl | simp [results, Tryd.results13, go_sem]) rfl ?_
                  exact ⟨_, by rw [F.out.1], by rw [F.out.1]; exact PrI.none F2.out⟩
        · have hn2 := hG.stop hlt 0
          have F : Hid _ := And.intro (HR.out.trans (hL.done (by rw [us_len, ← HL0.out.2.1]; exact hlt))) hG.pri
          obtain ⟨av, cv, rfl, -, -, -⟩ := hG.at
          clear hG hL hpe
          go_wp2
          (try rw [Exit.noGoto_ret])
          refine bodyPost_ret (v := .tuple #[.slice av out.length cv, .int .i64 0]) (by first | rfl | simp [results, Tryd.results13, go_sem]) rfl ?_
          exact ⟨_, by rw [F.out.1], by rw [F.out.1]; exact F.out.2⟩
    · have F : Hid _ := gtR_short (l := l) (by omega) (by rw [← hnl]; exact hzb)
      have q1 : (bt l (n - 1) != 0) = true := by simpa using hzb
      clear hr
      generalize bt l (n - 1) = B at *
      clear hlen hle hnl hn h0
      go_enter Tryd.func13, Tryd.ntmps13
      go_wp2
      go_step3
      go_wp2
      (try rw [Exit.noGoto_ret])
      refine bodyPost_ret (v := .tuple #[.slice none 0 0, .int .i64 10]) (by first | rfl | simp [results, Tryd.results13, go_sem]) rfl ?_
      exact ⟨_, by rw [F.out], by rw [F.out]; exact PrI.none (Below.refl _ _)⟩
end Go.Proofs.YtligmiajlbjecaaDoor

