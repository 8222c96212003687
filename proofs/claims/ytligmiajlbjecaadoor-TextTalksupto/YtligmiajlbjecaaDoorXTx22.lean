/- text, the document's: Get. -/
import Derived.Test.YtligmiajlbjecaaDoorXTx20
import Derived.Test.YtligmiajlbjecaaDoorXTx13
namespace Go.Proofs.YtligmiajlbjecaaDoor
open Go.RowKit
set_option linter.unusedVariables false
set_option linter.unusedSimpArgs false
set_option maxRecDepth 8000

theorem exec_conv18 {P : Program} {w : World} {a : Act} {o : Oper} {t t' : TypeId} {x : Operand} (ho : o.op = .convert t t' x) {p u : Value} (hx : a.eval x = p) (h : (convert t t' p).run P w = .ok u w) : (execOp a.eval o).run P w = .ok (.value u) w := by
  simp [execOp, ho, hx, h, Result.andThen]
theorem sz_u8_18 (w : World) : (sizeOf (Tryd.prog.elem 23)).run Tryd.prog w = .ok 1 w := by
  have e : Tryd.prog.elem 23 = 5 := by kernel_rfl
  obtain ⟨i0, hi, -, hz1, -⟩ := info_parts info_u8
  rw [e]
  simp [sizeOf, typeInfo, hi, hz1]
theorem elem_u8s18 : Tryd.prog.underlying 23 = some (.slice (Tryd.prog.elem 23)) := by kernel_rfl
/-- x[i:j] of bytes -/
theorem slice_both18 {w : World} {a : Option Addr} {n c : Nat} {l : List (BitVec 8)} (hr : Row w a l) (hl : l.length = n) (hc : n ≤ c) (i j : Nat) (hi : i ≤ j) (hj : j ≤ n) :
    ∃ y, (Row w y ((l.drop i).take (j - i))) ∧ (∀ W : World, (Instr.sliceAt 23 (.slice a n c) (some (.int .i64 (i : Int))) (some (.int .i64 (j : Int))) none).run Tryd.prog W = .ok (.slice y (j - i) (c - i)) W) := by
  have hrun : ∀ W : World, (Instr.sliceAt 23 (.slice a n c) (some (.int .i64 (i : Int))) (some (.int .i64 (j : Int))) none).run Tryd.prog W = .ok (sliced a i j c 1) W := fun W => by
    rw [run_sliceAt_slice W _ _ _ _ _ elem_u8s18, run_slice_lh W _ _ _ _ elem_u8s18 .i64 .i64 (i : Int) (j : Int) (by omega) (by omega) (by omega), sz_u8_18]
    rfl
  unfold sliced at hrun
  refine ⟨_, ?_, hrun⟩
  split
  · exact .inl (by rw [List.drop_eq_nil_of_le (by omega)]; simp)
  · rcases hr with rfl | ⟨b, off, rfl, hcl⟩
    · exact .inl (by simp)
    · have e : (⟨b, off, none⟩ : Addr).add i = ⟨b, off + i, none⟩ := by unfold Addr.add; split <;> simp_all
      refine .inr ⟨b, off + i, by simp [e], fun k hk => ?_⟩
      rw [List.length_take, List.length_drop] at hk
      rw [Nat.add_assoc, hcl (i + k) (by omega)]
      unfold bt
      simp [List.getD, List.getElem?_take, show k < j - i by omega]
theorem us_part (l : List (BitVec 8)) (i j : Nat) : us ((l.drop i).take (j - i)) = ((us l).take j).drop i := by
  unfold us
  rw [List.map_take, List.map_drop, List.drop_take]
theorem mkS_size (x : List UInt8) : (mkS x).size = x.length := by simp [mkS, ByteArray.size]
theorem mkS_get (x : List UInt8) (k : Nat) (h : k < x.length) : (mkS x)[k]'(by rw [mkS_size]; exact h) = x[k] := by
  simp [mkS]
  rfl
theorem slice_strh (x : List UInt8) (k : Nat) (hk : k ≤ x.length) (w : World) : (Instr.sliceAt 9 (.string (mkS x)) none (some (.int .i64 (k : Int))) none).run Tryd.prog w = .ok (.string (mkS (x.take k))) w := by
  rw [run_sliceAt_string w _ _ _ _ _ Tryd.underlying9, run_slice_string_h w _ _ Tryd.underlying9 .i64 (k : Int) (by omega) (by rw [mkS_size]; omega)]
  simp [ext_list, mkS_list]
theorem slice_strl (x : List UInt8) (k : Nat) (hk : k ≤ x.length) (w : World) : (Instr.sliceAt 9 (.string (mkS x)) (some (.int .i64 (k : Int))) none none).run Tryd.prog w = .ok (.string (mkS (x.drop k))) w := by
  rw [run_sliceAt_string w _ _ _ _ _ Tryd.underlying9, run_slice_string_l w _ _ Tryd.underlying9 .i64 (k : Int) (by omega) (by rw [mkS_size]; omega)]
  simp [ext_list, mkS_list, mkS_size]
theorem size_rp18 : (Tryd.prog.info? 41).map (·.size) = some 2 := by kernel_rfl
theorem Ln.step {L x : List UInt8} {pos first : Nat} {mid : Int} {out : List Pr} (h : Ln L pos first mid out x) (hp : pos < L.length) (h0 : L[pos] ≠ 0) : ∃ mid' x', Ln L (pos + 1) first mid' out x' := by
  by_cases hk : L[pos] = 61 ∧ mid = -1
  · obtain ⟨k1, rfl⟩ := hk
    exact ⟨_, _, h.equal hp k1⟩
  · refine ⟨_, _, h.over 1 hp (fun c hc => by rw [one_take hp, List.mem_singleton] at hc; rw [hc]; exact h0) ?_⟩
    by_cases k2 : mid = -1
    · exact .inr (fun c hc => by rw [one_take hp, List.mem_singleton] at hc; rw [hc]; exact fun e => hk ⟨e, k2⟩)
    · exact .inl k2
theorem Ln.no61 {L x : List UInt8} {pos first : Nat} {mid : Int} {out : List Pr} (h : Ln L pos first mid out x) (hp : pos < L.length) (hc : L[pos] = 0) (h64 : ¬ out.length = 64) (hx : ∀ c ∈ x, c ≠ 61) : gtN L [] [] = ([], 11) := by
  rw [h.zero hp hc, gtN_bad h64 _ (lineP_none hx)]
theorem any_snoc (l : List Pr) (j : Nat) (hj : j < l.length) (k : ByteArray) : (l.take (j + 1)).any (fun q => decide (q.1 = k)) = ((l.take j).any (fun q => decide (q.1 = k)) || decide (l[j].1 = k)) := by
  rw [List.take_succ_eq_append_getElem hj, List.any_append]
  simp
set_option maxHeartbeats 16000000 in
theorem rGet_any (a : Option Addr) (c : Nat) (l : List (BitVec 8)) (w : World) (hle : l.length ≤ c) (hr : Row w a l) (hn : a = none → c = 0) (hlen : l.length ≤ 140737488351232) :
    Calls Tryd.prog 14 #[.slice a l.length c] w fun e w' => ∃ v, e = .returned (.tuple #[v, .int .i64 (gtR (us l)).2]) ∧ PrI kRp w w' v (gtR (us l)).1 := by
  obtain ⟨n, hnl⟩ : ∃ n, n = l.length := ⟨_, rfl⟩
  rw [← hnl] at hle hlen ⊢
  by_cases h0 : n = 0
  · have hz : l.length = 0 ∨ bt l (l.length - 1) = 0 := .inl (by omega)
    have HR : Hid (gtR (us l) = gtN (us l) [] []) := gtR_go hz
    subst h0
    have HL0 : Hid _ := And.intro hr (And.intro hnl (And.intro hle (show l.length ≤ 140737488351232 by omega)))
    clear hr hz hn hle hnl
    go_enter Tryd.func14, Tryd.ntmps14
    go_wp2_with fail
    go_loopw [4, 5, 6] (fun lv fv iv wr => ∃ (pos first : Nat) (mid : Int) (out : List Pr) (x : List UInt8), fv = .int .i64 (first : Int) ∧ iv = .int .i64 (pos : Int) ∧ PrI kRp w wr lv out ∧ Ln (us l) pos first mid out x) (fun _ _ iv _ => l.length - (intOf iv).toNat)
    case atStart => exact ⟨0, 0, -1, [], [], rfl, rfl, PrI.nil _ _, Ln.start _⟩
    case round =>
      obtain ⟨pos, first, mid, out, x, rfl, rfl, hI, hL⟩ := hrel
      have hnl2 := HL0.out.2.1
      have hp0 : pos = 0 := by have := hL.le; rw [us_len] at this; omega
      subst hp0
      have F : Hid _ := And.intro (HR.out.trans (hL.done (by rw [us_len]; omega))) hI
      obtain ⟨av, cv, rfl, -⟩ := hI.at kRp_ok
      clear hI hL hnl2
      go_wp2
      refine bodyPost_ret (v := .tuple #[.slice av out.length cv, .int .i64 0]) (by first | rfl | simp [results, Tryd.results14, go_sem]) rfl ?_
      exact ⟨_, by rw [F.out.1], by rw [F.out.1]; exact F.out.2⟩
  · rcases hr with rfl | ⟨b, off, rfl, hc0⟩
    · exact absurd (hnl.trans rfl) h0
    have hcl := hc0 (l.length - 1) (by omega)
    have hr : Row w (some ⟨b, off, none⟩) l := .inr ⟨b, off, rfl, hc0⟩
    have hc : Hid (∀ i, i < l.length → w.cell? ⟨b, off + i, none⟩ = some (.int .u8 (bt l i))) := hc0
    clear hc0
    rw [← hnl] at hcl
    have q9 : 0 < n := by omega
    have w0 : IntKind.i64.wrap ((n : Int) - 1) = ((n - 1 : Nat) : Int) := by rw [IntKind.wrap_i64]; omega
    have q2 : n - 1 < n := by omega
    by_cases hzb : bt l (n - 1) = 0
    · have hz : l.length = 0 ∨ bt l (l.length - 1) = 0 := .inr (by rw [← hnl]; exact hzb)
      rw [hzb] at hcl
      clear hzb h0
      have HR : Hid (gtR (us l) = gtN (us l) [] []) := gtR_go hz
      have HL0 : Hid _ := And.intro hr (And.intro hnl (And.intro hle (show l.length ≤ 140737488351232 by omega)))
      clear hr hz hn hle hnl
      go_enter Tryd.func14, Tryd.ntmps14
      go_wp2_with fail
      go_loopw [4, 5, 6] (fun lv fv iv wr => ∃ (pos first : Nat) (mid : Int) (out : List Pr) (x : List UInt8), fv = .int .i64 (first : Int) ∧ iv = .int .i64 (pos : Int) ∧ PrI kRp w wr lv out ∧ Ln (us l) pos first mid out x) (fun _ _ iv _ => l.length - (intOf iv).toNat)
      case atStart => exact ⟨0, 0, -1, [], [], rfl, rfl, PrI.nil _ _, Ln.start _⟩
      case round =>
        obtain ⟨pos, first, mid, out, x, rfl, rfl, hI, hL⟩ := hrel
        by_cases hlt : pos < n
        · have hUL : (us l).length = n := by rw [us_len]; exact HL0.out.2.1.symm
          have hltL : pos < (us l).length := by omega
          have hlen3 := HL0.out.2.2.2
          have q1 : (pos : Int) < (n : Int) := by omega
          have q1n : pos < n := hlt
          obtain ⟨av, cv, rfl, hat⟩ := hI.at kRp_ok
          have hcl := hL.few
          have hnl := HL0.out.2.1
          have hbt := us_at l pos (by omega)
          have w5 : IntKind.i64.wrap ((pos : Int) + 1) = (pos : Int) + 1 := by rw [IntKind.wrap_i64]; omega
          have hcp : wr.cell? ⟨b, off + pos, none⟩ = some (.int .u8 (bt l pos)) := rcell hI.bel (hc.out pos (by omega))
          by_cases hz : bt l pos = 0
          · have h0 : (us l)[pos]'hltL = 0 := by apply UInt8.toNat_inj.1; show _ = 0; omega
            rw [hz] at hcp
            clear hbt hz
            by_cases h64 : out.length = 64
            · have F : Hid _ := And.intro (HR.out.trans (hL.full hltL h0 h64)) hI.bel
              have z64 : ((out.length : Int) == 64) = true := by simp; omega
              clear hI hL hUL hltL hlen3 hat hcl hnl h64 h0
              go_wp2
              refine bodyPost_ret (v := .tuple #[.slice none 0 0, .int .i64 3]) (by first | rfl | simp [results, Tryd.results14, go_sem]) rfl ?_
              exact ⟨_, by rw [F.out.1], by rw [F.out.1]; exact PrI.none F.out.2⟩
            · have z64 : ((out.length : Int) == 64) = false := by simp; omega
              have hx := hL.line
              have hfl := hL.first_le
              have hxl := hL.xlen
              obtain ⟨y, hy1, hy2⟩ := slice_both18 (HL0.out.1.later hI.bel) (by omega : l.length = n) HL0.out.2.2.1 first pos hfl (by omega)
              have hcv := hy1.str (pos - first) (c - first) (by rw [List.length_take, List.length_drop]; omega)
              rw [str_us, us_part, ← hx] at hcv
              have HY : Hid _ := And.intro hy2 hcv
              have HN : Hid (∀ hx : ∀ c ∈ x, c ≠ 61, gtR (us l) = ([], 11)) := (fun hx => HR.out.trans (hL.no61 hltL h0 h64 hx) : ∀ hx : ∀ c ∈ x, c ≠ 61, gtR (us l) = ([], 11))
              have HB : Hid (∀ a b, x = a ++ 61 :: b → (∀ c ∈ a, c ≠ 61) → okL out (mkS a, mkS b) = false → gtR (us l) = ([], 11)) := (fun a b e1 e2 e3 => HR.out.trans (hL.bad hltL h0 h64 e1 e2 e3) : ∀ a b, x = a ++ 61 :: b → (∀ c ∈ a, c ≠ 61) → okL out (mkS a, mkS b) = false → gtR (us l) = ([], 11))
              have HO : Hid (∀ a b, x = a ++ 61 :: b → (∀ c ∈ a, c ≠ 61) → okL out (mkS a, mkS b) = true → Ln (us l) (pos + 1) (pos + 1) (-1) (out ++ [(mkS a, mkS b)]) []) := (fun a b e1 e2 e3 => hL.next hltL h0 h64 e1 e2 e3 : ∀ a b, x = a ++ 61 :: b → (∀ c ∈ a, c ≠ 61) → okL out (mkS a, mkS b) = true → Ln (us l) (pos + 1) (pos + 1) (-1) (out ++ [(mkS a, mkS b)]) [])
              have HQ : Hid _ := And.intro hI (And.intro hcl (And.intro hat (And.intro hnl hlt)))
              have hxb : x.length ≤ 140737488351232 := by omega
              have hms := mkS_size x
              clear hI hL hUL hltL hlen3 hat hcl hnl h64 h0 hx hfl hxl hy1 hy2 hcv hlt
              go_wp2_with (first | (refine wpList_value rfl (exec_slice18 rfl rfl (HY.out.1 _)) ?_) | (refine wpList_value rfl (exec_conv18 rfl rfl (HY.out.2)) ?_))
              go_loopw [8] (fun kv wk => ∃ k : Nat, kv = .int .i64 (k : Int) ∧ k ≤ x.length ∧ wk = wr ∧ ∀ c ∈ x.take k, c ≠ 61) (fun kv _ => x.length - (intOf kv).toNat)
              case atStart => exact ⟨0, rfl, Nat.zero_le _, rfl, fun c h => by simp at h⟩
              case round =>
                obtain ⟨k, rfl, hk, rfl, hno⟩ := hrel
                by_cases hkl : k < x.length
                · have hix := ix_str (mkS x) k (by rw [hms]; exact hkl)
                  rw [mkS_get x k hkl] at hix
                  have r1 : (k : Int) < ((mkS x).size : Int) := by rw [hms]; omega
                  have w6 : IntKind.i64.wrap ((k : Int) + 1) = (k : Int) + 1 := by rw [IntKind.wrap_i64]; omega
                  have htk : x.take (k + 1) = x.take k ++ [x[k]] := List.take_succ_eq_append_getElem hkl
                  by_cases h61 : x[k] = 61
                  · have zk : (((x[k]).toNat : Int) != 61) = false := by rw [h61]; rfl
                    have r2 : ((k : Int) == ((mkS x).size : Int)) = false := by rw [hms]; simp; omega
                    have hxe : x = x.take k ++ 61 :: x.drop (k + 1) := by conv => lhs; rw [← List.take_append_drop k x, List.drop_eq_getElem_cons hkl, h61]
                    have s1 := fun W => slice_strh x k (by omega) W
                    have s2 := fun W => slice_strl x (k + 1) (by omega) W
                    have HBk : Hid _ := HB.out _ _ hxe hno
                    have HOk : Hid _ := HO.out _ _ hxe hno
                    clear HB HO HN hxe
                    obtain ⟨xk, hxk⟩ : ∃ xk, xk = mkS (x.take k) := ⟨_, rfl⟩
                    obtain ⟨xv, hxv⟩ : ∃ xv, xv = mkS (x.drop (k + 1)) := ⟨_, rfl⟩
                    rw [← hxk] at s1
                    rw [← hxv] at s2
                    rw [← hxk, ← hxv] at HBk HOk
                    have hbk : xk.size ≤ 9223372036854775807 := by rw [hxk, mkS_size, List.length_take]; omega
                    have hbv : xv.size ≤ 9223372036854775807 := by rw [hxv, mkS_size, List.length_drop]; omega
                    have HKy : Hid (∀ W, _) := fun W => rKey_any xk W hbk
                    have HVl : Hid (∀ W, _) := fun W => rVal_any xv W hbv
                    have S12 : Hid ((∀ W, _) ∧ (∀ W, _)) := And.intro s1 s2
                    have hokd : okL out (xk, xv) = ((keyB18 xk.data.toList && valB18 xv.data.toList) && !(out.any fun q => decide (q.1 = xk))) := rfl
                    rw [hokd] at HBk HOk
                    have hzx : ((x[k]).toNat : Int) = 61 := by rw [h61]; rfl
                    rw [hzx] at hix zk
                    clear s1 s2 hbk hbv hxk hxv hokd htk hno h61 hzx
                    have N0 := (Blk.new' wr 41 [.string ⟨#[]⟩, .string ⟨#[]⟩]).laterB (Below.refl _ _).drew
                    have b0 : Below wr.heap.size wr ((wr.alloc (.cells #[.string ⟨#[]⟩, .string ⟨#[]⟩] 41)).drew) := ((Below.refl _ _).alloc (Nat.le_refl _) _).drew
                    obtain ⟨w3, hw3⟩ : ∃ w3, w3 = (wr.alloc (.cells #[.string ⟨#[]⟩, .string ⟨#[]⟩] 41)).drew := ⟨_, rfl⟩
                    rw [← hw3] at N0 b0
                    obtain ⟨w4, st, N4, g4⟩ := storeW (T := 41) (vs := [.string xk, .string xv]) size_rp18 N0 rfl (fun u hu => by simp at hu; rcases hu with rfl | rfl <;> rfl)
                    have b4 : Below wr.heap.size wr w4 := b0.grown g4 b0.size (fun k e => by cases e; exact Nat.le_refl _)
                    have HW : Hid _ := And.intro b0 (And.intro b4 N4)
                    obtain ⟨kb, hkb⟩ : ∃ kb, kb = keyB18 xk.data.toList := ⟨_, rfl⟩
                    obtain ⟨vb, hvb⟩ : ∃ vb, vb = valB18 xv.data.toList := ⟨_, rfl⟩
                    rw [← hkb, ← hvb] at HBk HOk
                    rw [← hkb] at HKy
                    rw [← hvb] at HVl
                    clear hkb hvb
                    go_upto_region 18 with fail
                    refine wp_region_held_drew (S := fun W => Below wr.heap.size wr W) (by kernel_rfl) (by exact (Below.refl _ _).drew) (fun hS => ?_)
                    refine any_take (i := 0) (v := ?_) rfl (by kernel_rfl) (by kernel_rfl) (by kernel_rfl) (by exact fun _ _ _ h => h) (by rfl) ?_ hS ?_
                    rotate_left
                    · ((intro w hSw; skip; go_simp) <;> with_reducible rfl)
                    (try simp only [Act.put, List.setIfInBounds_toArray, List.set_cons_zero, List.set_cons_succ])
                    refine any_take (i := 1) (v := ?_) rfl (by kernel_rfl) (by kernel_rfl) (by kernel_rfl) (by exact fun _ _ _ h => h) (by rfl) ?_ hS ?_
                    rotate_left
                    · ((intro w hSw; skip; go_simp) <;> with_reducible rfl)
                    (try simp only [Act.put, List.setIfInBounds_toArray, List.set_cons_zero, List.set_cons_succ])
                    refine any_take (i := 2) (v := .string xk) rfl (by kernel_rfl) (by kernel_rfl) (by kernel_rfl) (by exact fun _ _ _ h => h) (by rfl) ?_ hS ?_
                    · intro W hSW; exact exec_slice18 rfl rfl (S12.out.1 W)
                    (try simp only [Act.put, List.setIfInBounds_toArray, List.set_cons_zero, List.set_cons_succ])
                    refine any_take (i := 3) (v := ?_) rfl (by kernel_rfl) (by kernel_rfl) (by kernel_rfl) (by exact fun _ _ _ h => h) (by rfl) ?_ hS ?_
                    rotate_left
                    · ((intro w hSw; skip; go_simp) <;> with_reducible rfl)
                    (try simp only [Act.put, List.setIfInBounds_toArray, List.set_cons_zero, List.set_cons_succ])
                    refine any_take (i := 4) (v := ?_) rfl (by kernel_rfl) (by kernel_rfl) (by kernel_rfl) (by exact fun _ _ _ h => h) (by rfl) ?_ hS ?_
                    rotate_left
                    · ((intro w hSw; skip; go_simp) <;> with_reducible rfl)
                    (try simp only [Act.put, List.setIfInBounds_toArray, List.set_cons_zero, List.set_cons_succ])
                    refine any_take (i := 5) (v := ?_) rfl (by kernel_rfl) (by kernel_rfl) (by kernel_rfl) (by exact fun _ _ _ h => h) (by rfl) ?_ hS ?_
                    rotate_left
                    · ((intro w hSw; skip; go_simp) <;> with_reducible rfl)
                    (try simp only [Act.put, List.setIfInBounds_toArray, List.set_cons_zero, List.set_cons_succ])
                    refine any_take (i := 6) (v := .string xv) rfl (by kernel_rfl) (by kernel_rfl) (by kernel_rfl) (by exact fun _ _ _ h => h) (by rfl) ?_ hS ?_
                    · intro W hSW; exact exec_slice18 rfl rfl (S12.out.2 W)
                    (try simp only [Act.put, List.setIfInBounds_toArray, List.set_cons_zero, List.set_cons_succ])
                    refine any_take (i := 7) (v := ?_) rfl (by kernel_rfl) (by kernel_rfl) (by kernel_rfl) (by exact fun _ _ _ h => h) (by rfl) ?_ hS ?_
                    rotate_left
                    · ((intro w hSw; skip; go_simp) <;> with_reducible rfl)
                    (try simp only [Act.put, List.setIfInBounds_toArray, List.set_cons_zero, List.set_cons_succ])
                    refine any_one (i := 8) rfl (by kernel_rfl) (fun K hK => ?_)
                    go_simp
                    rw [← hw3]
                    refine hK.out _ _ (HW.out.1) ?_
                    clear hK K hS
                    have hS := HW.out.1
                    refine any_one (i := 9) rfl (by kernel_rfl) (fun K hK => ?_)
                    refine step_skip18 (by rfl) (exec_store rfl rfl rfl st) ?_
                    refine hK.out _ _ (HW.out.2.1) ?_
                    clear hK K hS
                    refine wpAnyH_done (by kernel_rfl) ?_ _
                    have I4 := HQ.out.1.later b4
                    have A4 := gat_later b4 HQ.out.2.2.1
                    have gb : wr.heap.size = wr.heap.size := rfl
                    obtain ⟨g, hg⟩ : ∃ g, g = wr.heap.size := ⟨_, rfl⟩
                    rw [← hg] at N4 ⊢
                    have y0 := ck_at N4 0
                    have y1 := ck_at N4 1
                    simp only [List.getElem?_cons_zero, List.getElem?_cons_succ] at y0 y1
                    have H4 : Hid _ := And.intro I4 (And.intro A4 (And.intro N4 (And.intro HQ.out.2.1 HQ.out.2.2.2)))
                    clear I4 A4 N4 N0 b0 g4 st b4 hw3 HW HQ gb HY S12 hg hcp
                    have hcL := H4.out.2.2.2.1
                    obtain ⟨bd, hbd⟩ : ∃ bd, bd = !(kb && vb) := ⟨_, rfl⟩
                    have HBk2 : Hid ((bd || out.any fun q => decide (q.1 = xk)) = true → gtR (us l) = ([], 11)) := (fun h => HBk.out (by rw [hbd] at h; revert h; cases kb <;> cases vb <;> simp) : (bd || out.any fun q => decide (q.1 = xk)) = true → gtR (us l) = ([], 11))
                    have HOk2 : Hid ((bd || out.any fun q => decide (q.1 = xk)) = false → _) := (fun h => HOk.out (by rw [hbd] at h; revert h; cases kb <;> cases vb <;> simp) : (bd || out.any fun q => decide (q.1 = xk)) = false → _)
                    clear HBk HOk
                    cases kb
                    · have hb1 : bd = true := by rw [hbd]; rfl
                      rw [hb1] at HBk2 HOk2
                      clear hbd hb1
                      go_wp2_with fail
                      refine (Calls.mono (HKy.out w4)) ?_
                      rintro e _ ⟨rfl, rfl⟩
                      clear HKy HVl
                      go_wp2_with fail
                      go_loopw [10, 11] (fun bv jv wj => ∃ j : Nat, jv = .int .i64 (j : Int) ∧ j ≤ out.length ∧ Below w4.heap.size w4 wj ∧ bv = .bool (true || (out.take j).any fun q => decide (q.1 = xk))) (fun _ jv _ => out.length - (intOf jv).toNat)
                      case atStart => exact ⟨0, rfl, Nat.zero_le _, Below.refl _ _, by simp⟩
                      case round =>
                        obtain ⟨j, rfl, hj, hBj, rfl⟩ := hrel
                        have y2 := ck_later y0 hBj
                        have y3 := ck_later y1 hBj
                        by_cases hjl : j < out.length
                        · obtain ⟨b2, off2, rfl, hcj⟩ := (H4.out.2.1).each kRp_ok j hjl
                          have hc0 := hcj 0 (by simp [kRp])
                          simp only [kRp, List.getElem?_cons_zero, Nat.add_zero] at hc0
                          have hc1 := ck_later hc0 hBj
                          have hsn := any_snoc out j hjl xk
                          generalize out[j] = y at *
                          have q3 : (j : Int) < (out.length : Int) := by omega
                          have q3n : j < out.length := hjl
                          have w6 : IntKind.i64.wrap ((j : Int) + 1) = (j : Int) + 1 := by rw [IntKind.wrap_i64]; omega
                          have he := beq_toList y.1 xk
                          clear hcj hjl
                          generalize han : (out.take j).any (fun q => decide (q.1 = xk)) = an at *
                          have F : Hid _ := And.intro hsn (And.intro q3n (And.intro hBj (fun m => hBj.trans (⟨rfl, rfl, rfl, Nat.le_refl _, fun _ _ => rfl⟩ : Below w4.heap.size wr (wr.drewN m)))))
                          clear hsn hc0 hBj y0 y1
                          have hbv : Hid _ := F.out.1
                          simp only [Bool.true_or]
                          go_wp2_with fail
                          go_quiet (fail)
                          go_wp2
                          go_roundw
                          case rel => exact ⟨j + 1, by first | rfl | go_num, F.out.2.1, by first | exact F.out.2.2.1 | exact F.out.2.2.2 _, by first | rfl | (rw [F.out.1]; first | done | (simp; done))⟩
                          case measure => have := F.out.2.1; simp [intOf]; omega
                        · obtain rfl : j = out.length := by omega
                          rw [List.take_length]
                          simp only [Bool.true_or]
                          have F : Hid _ := HBk2.out (by first | rfl | assumption | simp)
                          have F2 : Hid _ := (H4.out.1.later hBj).bel
                          clear HBk2 HOk2 H4 y0 y1 hcL hj hjl hBj
                          go_wp2
                          refine bodyPost_ret (v := .tuple #[.slice none 0 0, .int .i64 11]) (by first | rfl | simp [results, Tryd.results14, go_sem]) rfl ?_
                          exact ⟨_, by rw [F.out], by rw [F.out]; exact PrI.none F2.out⟩
                    · go_wp2_with fail
                      refine (Calls.mono (HKy.out w4)) ?_
                      rintro e _ ⟨rfl, rfl⟩
                      go_wp2_with fail
                      refine (Calls.mono (HVl.out w4)) ?_
                      rintro e _ ⟨rfl, rfl⟩
                      clear HKy HVl
                      cases vb
                      · have hb1 : bd = true := by rw [hbd]; rfl
                        rw [hb1] at HBk2 HOk2
                        clear hbd hb1
                        go_wp2_with fail
                        go_loopw [10, 11] (fun bv jv wj => ∃ j : Nat, jv = .int .i64 (j : Int) ∧ j ≤ out.length ∧ Below w4.heap.size w4 wj ∧ bv = .bool (true || (out.take j).any fun q => decide (q.1 = xk))) (fun _ jv _ => out.length - (intOf jv).toNat)
                        case atStart => exact ⟨0, rfl, Nat.zero_le _, Below.refl _ _, by simp⟩
                        case round =>
                          obtain ⟨j, rfl, hj, hBj, rfl⟩ := hrel
                          have y2 := ck_later y0 hBj
                          have y3 := ck_later y1 hBj
                          by_cases hjl : j < out.length
                          · obtain ⟨b2, off2, rfl, hcj⟩ := (H4.out.2.1).each kRp_ok j hjl
                            have hc0 := hcj 0 (by simp [kRp])
                            simp only [kRp, List.getElem?_cons_zero, Nat.add_zero] at hc0
                            have hc1 := ck_later hc0 hBj
                            have hsn := any_snoc out j hjl xk
                            generalize out[j] = y at *
                            have q3 : (j : Int) < (out.length : Int) := by omega
                            have q3n : j < out.length := hjl
                            have w6 : IntKind.i64.wrap ((j : Int) + 1) = (j : Int) + 1 := by rw [IntKind.wrap_i64]; omega
                            have he := beq_toList y.1 xk
                            clear hcj hjl
                            generalize han : (out.take j).any (fun q => decide (q.1 = xk)) = an at *
                            have F : Hid _ := And.intro hsn (And.intro q3n (And.intro hBj (fun m => hBj.trans (⟨rfl, rfl, rfl, Nat.le_refl _, fun _ _ => rfl⟩ : Below w4.heap.size wr (wr.drewN m)))))
                            clear hsn hc0 hBj y0 y1
                            have hbv : Hid _ := F.out.1
                            simp only [Bool.true_or]
                            go_wp2_with fail
                            go_quiet (fail)
                            go_wp2
                            go_roundw
                            case rel => exact ⟨j + 1, by first | rfl | go_num, F.out.2.1, by first | exact F.out.2.2.1 | exact F.out.2.2.2 _, by first | rfl | (rw [F.out.1]; first | done | (simp; done))⟩
                            case measure => have := F.out.2.1; simp [intOf]; omega
                          · obtain rfl : j = out.length := by omega
                            rw [List.take_length]
                            simp only [Bool.true_or]
                            have F : Hid _ := HBk2.out (by first | rfl | assumption | simp)
                            have F2 : Hid _ := (H4.out.1.later hBj).bel
                            clear HBk2 HOk2 H4 y0 y1 hcL hj hjl hBj
                            go_wp2
                            refine bodyPost_ret (v := .tuple #[.slice none 0 0, .int .i64 11]) (by first | rfl | simp [results, Tryd.results14, go_sem]) rfl ?_
                            exact ⟨_, by rw [F.out], by rw [F.out]; exact PrI.none F2.out⟩
                      · have hb1 : bd = false := by rw [hbd]; rfl
                        rw [hb1] at HBk2 HOk2
                        clear hbd hb1
                        go_wp2_with fail
                        go_loopw [10, 11] (fun bv jv wj => ∃ j : Nat, jv = .int .i64 (j : Int) ∧ j ≤ out.length ∧ Below w4.heap.size w4 wj ∧ bv = .bool (false || (out.take j).any fun q => decide (q.1 = xk))) (fun _ jv _ => out.length - (intOf jv).toNat)
                        case atStart => exact ⟨0, rfl, Nat.zero_le _, Below.refl _ _, by simp⟩
                        case round =>
                          obtain ⟨j, rfl, hj, hBj, rfl⟩ := hrel
                          have y2 := ck_later y0 hBj
                          have y3 := ck_later y1 hBj
                          by_cases hjl : j < out.length
                          · obtain ⟨b2, off2, rfl, hcj⟩ := (H4.out.2.1).each kRp_ok j hjl
                            have hc0 := hcj 0 (by simp [kRp])
                            simp only [kRp, List.getElem?_cons_zero, Nat.add_zero] at hc0
                            have hc1 := ck_later hc0 hBj
                            have hsn := any_snoc out j hjl xk
                            generalize out[j] = y at *
                            have q3 : (j : Int) < (out.length : Int) := by omega
                            have q3n : j < out.length := hjl
                            have w6 : IntKind.i64.wrap ((j : Int) + 1) = (j : Int) + 1 := by rw [IntKind.wrap_i64]; omega
                            have he := beq_toList y.1 xk
                            clear hcj hjl
                            generalize han : (out.take j).any (fun q => decide (q.1 = xk)) = an at *
                            have F : Hid _ := And.intro hsn (And.intro q3n (And.intro hBj (fun m => hBj.trans (⟨rfl, rfl, rfl, Nat.le_refl _, fun _ _ => rfl⟩ : Below w4.heap.size wr (wr.drewN m)))))
                            clear hsn hc0 hBj y0 y1
                            have hbv : Hid _ := F.out.1
                            cases an
                            · simp only [Bool.or_false]
                              go_wp2_with fail
                              go_quiet (fail)
                              go_wp2
                              go_roundw
                              case rel => exact ⟨j + 1, by first | rfl | go_num, F.out.2.1, by first | exact F.out.2.2.1 | exact F.out.2.2.2 _, by first | rfl | (rw [F.out.1]; first | done | (simp [he]; done))⟩
                              case measure => have := F.out.2.1; simp [intOf]; omega
                            · simp only [Bool.or_true]
                              go_wp2_with fail
                              go_quiet (fail)
                              go_wp2
                              go_roundw
                              case rel => exact ⟨j + 1, by first | rfl | go_num, F.out.2.1, by first | exact F.out.2.2.1 | exact F.out.2.2.2 _, by first | rfl | (rw [F.out.1]; first | done | (simp; done))⟩
                              case measure => have := F.out.2.1; simp [intOf]; omega
                          · obtain rfl : j = out.length := by omega
                            rw [List.take_length]
                            generalize (out.any fun q => decide (q.1 = xk)) = an at *
                            simp only [Bool.false_or] at *
                            cases an
                            · have hLn := HOk2.out (by first | rfl | assumption)
                              obtain ⟨v7, w7, hap, I7⟩ := (H4.out.1.later hBj).more kRp_ok (xk, xv) [.string xk, .string xv] rfl (by omega) (by simp [kRp]; omega)
                              have ll : (out ++ [(xk, xv)]).length = out.length + 1 := by simp
                              obtain ⟨a7, n7, c7, ee7⟩ := I7.slice kRp_ok
                              subst ee7
                              have F : Hid _ := And.intro I7 (And.intro hLn H4.out.2.2.2.2)
                              clear hLn I7 ll HBk2 HOk2 H4 hcL hj hjl y0 y1 hBj
                              go_wp2_with (at_builtin; refine wpList_run_app rfl _ _ 22 22 rfl _ _ rfl rfl hap ?_)
                              go_wp2
                              go_roundw
                              case rel => exact ⟨_, _, _, _, _, by first | rfl | trivial | go_num, by first | rfl | trivial | go_num, F.out.1, F.out.2.1⟩
                              case measure => have e1 := F.out.2.2.1; have e2 := F.out.2.2.2; simp [intOf]; omega
                            · have F : Hid _ := HBk2.out (by first | rfl | assumption | simp)
                              have F2 : Hid _ := (H4.out.1.later hBj).bel
                              clear HBk2 HOk2 H4 y0 y1 hcL hj hjl hBj
                              go_wp2
                              refine bodyPost_ret (v := .tuple #[.slice none 0 0, .int .i64 11]) (by first | rfl | simp [results, Tryd.results14, go_sem]) rfl ?_
                              exact ⟨_, by rw [F.out], by rw [F.out]; exact PrI.none F2.out⟩
                  · have zk : (((x[k]).toNat : Int) != 61) = true := by
                      have : ¬ (x[k]).toNat = 61 := fun e => h61 (UInt8.toNat_inj.1 e)
                      simp; omega
                    have F : Hid (∀ c ∈ x.take (k + 1), c ≠ 61) := (fun c hc => by rw [htk] at hc; rcases List.mem_append.1 hc with hc | hc; exact hno c hc; rw [List.mem_singleton.1 hc]; exact h61 : ∀ c ∈ x.take (k + 1), c ≠ 61)
                    have F2 : Hid _ := hkl
                    generalize ((x[k]).toNat : Int) = C at *
                    clear htk hno h61 hkl
                    go_wp2
                    go_roundw
                    case rel => exact ⟨_, by first | rfl | go_num, F2.out, by first | rfl | trivial, F.out⟩
                    case measure => have := F2.out; simp [intOf]; omega
                · obtain rfl : k = x.length := by omega
                  rw [List.take_length] at hno
                  have F : Hid _ := HN.out hno
                  have F2 : Hid _ := HQ.out.1.bel
                  have r1 : ¬ ((x.length : Int) < ((mkS x).size : Int)) := by rw [hms]; omega
                  have r2 : ((x.length : Int) == ((mkS x).size : Int)) = true := by rw [hms]; simp
                  clear hno hk HN HB HO HQ HY hms
                  go_wp2
                  refine bodyPost_ret (v := .tuple #[.slice none 0 0, .int .i64 11]) (by first | rfl | simp [results, Tryd.results14, go_sem]) rfl ?_
                  exact ⟨_, by rw [F.out], by rw [F.out]; exact PrI.none F2.out⟩
          · obtain ⟨mid', x', hLn⟩ := hL.step hltL (fun e => hz (by rw [← hbt, e]; rfl))
            have zz : (bt l pos != 0) = true := by simpa using hz
            have F : Hid _ := And.intro hI hLn
            have F2 : Hid _ := And.intro hnl hlt
            generalize bt l pos = B at *
            clear hI hLn hL hUL hltL hlen3 hat hcl hnl hbt hz hlt
            go_wp2
            go_roundw
            case rel => exact ⟨_, _, _, _, _, rfl, by first | rfl | go_num, F.out.1, F.out.2⟩
            case measure => have e1 := F2.out.1; have e2 := F2.out.2; simp [intOf]; omega
        · have hle3 : ¬ pos < (us l).length := by rw [us_len]; have := HL0.out.2.1; omega
          have F : Hid _ := And.intro (HR.out.trans (hL.done hle3)) hI
          obtain ⟨av, cv, rfl, -⟩ := hI.at kRp_ok
          have q1 : ¬ pos < n := hlt
          clear hI hL hle3 hlt
          go_wp2
          refine bodyPost_ret (v := .tuple #[.slice av out.length cv, .int .i64 0]) (by first | rfl | simp [results, Tryd.results14, go_sem]) rfl ?_
          exact ⟨_, by rw [F.out.1], by rw [F.out.1]; exact F.out.2⟩
    · have F : Hid _ := gtR_short (l := l) (by omega) (by rw [← hnl]; exact hzb)
      have q1 : (bt l (n - 1) != 0) = true := by simpa using hzb
      clear hr hc
      generalize bt l (n - 1) = B at *
      clear hlen hle hnl hn h0
      go_enter Tryd.func14, Tryd.ntmps14
      go_wp2
      refine bodyPost_ret (v := .tuple #[.slice none 0 0, .int .i64 10]) (by first | rfl | simp [results, Tryd.results14, go_sem]) rfl ?_
      exact ⟨_, by rw [F.out], by rw [F.out]; exact PrI.none (Below.refl _ _)⟩
end Go.Proofs.YtligmiajlbjecaaDoor

