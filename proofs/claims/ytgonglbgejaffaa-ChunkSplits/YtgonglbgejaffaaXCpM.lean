/- The document's Split. -/
import Derived.Test.YtgonglbgejaffaaXCpK
import Derived.Test.YtgonglbgejaffaaXCk16
namespace Go.Proofs.Ytgonglbgejaffaa
open Go.RowKit Go.Shelf
set_option linter.unusedVariables false
set_option linter.unusedSimpArgs false
set_option maxRecDepth 8000

theorem exec_slice7 {P : Program} {w : World} {a : Act} {o : Oper} {t : TypeId} {x : Operand} {lo hi : Option Operand} (ho : o.op = .slice t x lo hi none) {p u : Value} (hx : a.eval x = p) (h : (Instr.sliceAt t p (lo.map a.eval) (hi.map a.eval) none).run P w = .ok u w) : (execOp a.eval o).run P w = .ok (.value u) w := by
  simp [execOp, ho, hx, h, Result.andThen]
theorem sz_u87 (w : World) : (sizeOf (Try.prog.elem 22)).run Try.prog w = .ok 1 w := by
  have e : Try.prog.elem 22 = 5 := by kernel_rfl
  obtain ⟨i0, hi, -, hz1, -⟩ := info_parts info_u8
  rw [e]
  simp [sizeOf, typeInfo, hi, hz1]
theorem elem_u8s7 : Try.prog.underlying 22 = some (.slice (Try.prog.elem 22)) := by kernel_rfl
/-- x[i:j] of bytes -/
theorem slice_both7 {w : World} {a : Option Addr} {n c : Nat} {l : List (BitVec 8)} (hr : Row w a l) (hl : l.length = n) (hc : n ≤ c) (hn : a = none → c = 0) (i j : Nat) (hi : i ≤ j) (hj : j ≤ n) :
    ∃ y, (∀ W : World, (Instr.sliceAt 22 (.slice a n c) (some (.int .i64 (i : Int))) (some (.int .i64 (j : Int))) none).run Try.prog W = .ok (.slice y (j - i) (c - i)) W) ∧ (y = none → c - i = 0) ∧ (∀ X, Row X a l → Row X y ((l.drop i).take (j - i))) := by
  have hrun : ∀ W : World, (Instr.sliceAt 22 (.slice a n c) (some (.int .i64 (i : Int))) (some (.int .i64 (j : Int))) none).run Try.prog W = .ok (sliced a i j c 1) W := fun W => by
    rw [run_sliceAt_slice W _ _ _ _ _ elem_u8s7, run_slice_lh W _ _ _ _ elem_u8s7 .i64 .i64 (i : Int) (j : Int) (by omega) (by omega) (by omega), sz_u87]
    rfl
  unfold sliced at hrun
  refine ⟨_, hrun, ?_, fun X hr => ?_⟩
  · split
    · intro h; omega
    · intro h
      have : a = none := by cases a <;> simp_all
      have := hn this
      omega
  · split
    · exact .inl (by rw [List.drop_eq_nil_of_le (by omega)]; simp)
    · rcases hr with rfl | ⟨b, off, rfl, hcl⟩
      · exact .inl (by simp)
      · have e : (⟨b, off, none⟩ : Addr).add i = ⟨b, off + i, none⟩ := by unfold Addr.add; split <;> simp_all
        refine .inr ⟨b, off + i, by simp [e], fun k hk => ?_⟩
        rw [List.length_take, List.length_drop] at hk
        rw [Nat.add_assoc, hcl (i + k) (by omega)]
        unfold bt
        simp [List.getD, List.getElem?_take, show k < j - i by omega]
theorem step_app7 {ops : Array Oper} {o : Oper} {a : Act} {w w' : World} {v' : Value} {K : Act → World → Prop} {Q : Exit → Act → World → Prop} {E : Prop} (hg : o.guard = none) (s x : Operand) (t1 t2 : TypeId)
    (ho : o.op = .call { callee := .builtin .append, args := #[s, x], argTypes := #[t1, t2] }) (vs vx : Value) (hs : a.eval s = vs) (hx : a.eval x = vx) (hr : (Builtin.append_ #[t1, t2] o.type #[vs, vx]).run Try.prog w = .ok v' w') (next : K (a.put o.dst v') w') :
    if Region.wanted o (yielded ops a.tmps) = true then Oper.wp Try.prog o a w K Q else E := by
  have hw : Region.wanted o (yielded ops a.tmps) = true := by simp [Region.wanted, hg]
  rw [if_pos hw]
  unfold Oper.wp
  simp only [execOp, ho, resolve, invoke, builtin, Sem.run_bind, Sem.run_pure, Result.andThen_ok, List.map_toArray, List.map_cons, List.map_nil, hs, hx, hr]
  exact next
/-- slices of bytes of the call's own -/
structure LsO (w : World) (base : Nat) (v : Value) (vs : List Value) (ls : List (List (BitVec 8))) : Prop where
  own : w.ownsRow base 22 1 v ls.length vs
  len : vs.length = ls.length
  each : ∀ i (h : i < ls.length), ∃ u, vs[i]? = some u ∧ Own w base u ls[i]
theorem LsO.nil (w : World) (base : Nat) : LsO w base (.slice none 0 0) [] [] := ⟨World.ownsRow_nil _ _ _ _, rfl, fun i h => absurd h (Nat.not_lt_zero _)⟩
theorem LsO.later {w w' : World} {base : Nat} {v : Value} {vs : List Value} {ls : List (List (BitVec 8))} (h : LsO w base v vs ls) (hb : Below w.heap.size w w') : LsO w' base v vs ls :=
  ⟨World.ownsRow.kept h.own (row := none) (below_grown hb) (by cases hv : v.ownBlock <;> simp), h.len, fun i hi => by obtain ⟨u, h1, h2⟩ := h.each i hi; exact ⟨u, h1, h2.later hb⟩⟩
theorem lso_slice {w : World} {base : Nat} {v : Value} {vs : List Value} {ls : List (List (BitVec 8))} (h : LsO w base v vs ls) : ∃ a n c, v = .slice a n c := by
  obtain ⟨h1, ⟨rfl, _⟩ | ⟨g, cap, cur, rfl, r⟩⟩ := h.own
  · exact ⟨_, _, _, rfl⟩
  · exact ⟨_, _, _, rfl⟩
theorem row_apart7 {w : World} {base b T n : Nat} {v u : Value} {xs : List Value} {l : List (BitVec 8)} (h : w.ownsRow base T 1 v n xs) (ho : Own w b u l) (hT : T ≠ 5) : ∀ k, u.ownBlock = some k → v.ownBlock ≠ some k := by
  intro k hk e
  obtain ⟨h1, ⟨rfl, _⟩ | ⟨g, cap, cur, rfl, hb, hh, hc, hm, hs, ht⟩⟩ := h
  · cases e
  · obtain ⟨k1, ⟨rfl, _⟩ | ⟨g2, cap2, cur2, rfl, hb2, hh2, r⟩⟩ := ho
    · cases hk
    · cases hk
      cases e
      rw [hh] at hh2
      injection hh2 with hh2
      injection hh2 with _ hh2
      exact hT hh2
theorem app_list7 (w : World) (base : Nat) (v : Value) (vs : List Value) (ls : List (List (BitVec 8))) (z : Value) (l : List (BitVec 8)) (k : Nat) (h : LsO w base v vs ls) (hB : Blk w k 22 [z]) (hz : Own w base z l) (hmax : ls.length ≤ 1000000) (hbase : base ≤ w.heap.size) :
    ∃ v' w', (Builtin.append_ #[23, 23] 23 #[v, .slice (some ⟨k, 0, none⟩) 1 1]).run Try.prog w = .ok v' w' ∧ LsO w' base v' (vs ++ [z]) (ls ++ [l]) ∧ w.grownBy w' v.ownBlock := by
  obtain ⟨i0, hi, hz0, hz1, hz2⟩ := info_parts info_list
  have c0 := blk_at hB 0
  simp only [List.getElem?_cons_zero] at c0
  obtain ⟨za, zn, zc, rfl⟩ := own_slice hz
  obtain ⟨v', w', hr, k2, k3, -, k5⟩ := run_append_own_at (P := Try.prog) (w := w) base 23 23 22 i0 (.slice none 0 0) 1 24 Try.underlying23 hi hz0 hz1 hz2 rfl (by decide) v ls.length vs h.own ⟨k, 0, none⟩ 1 1 [.slice za zn zc] rfl (by
    intro j u hj
    match j, hj with
    | 0, hj => simp at hj; subst hj; simpa [Addr.add] using c0) (by
    intro u hu
    simp only [List.mem_cons, List.not_mem_nil, or_false] at hu
    subst hu; rfl) (by unfold maxLen; omega) (by omega) hbase
  have stay : ∀ {u : Value} {m : List (BitVec 8)}, Own w base u m → Own w' base u m := fun {u m} hu => hu.keep k3 (fun q hq e => row_apart7 h.own hu (by decide) q hq e.symm)
  refine ⟨v', w', hr, ⟨by rw [List.length_append]; exact k2, by rw [List.length_append, List.length_append, h.len]; rfl, fun i hi => ?_⟩, k3⟩
  by_cases e : i < ls.length
  · obtain ⟨u, e1, hu⟩ := h.each i e
    exact ⟨u, by rw [List.getElem?_append_left (by rw [h.len]; exact e)]; exact e1, by rw [List.getElem_append_left e]; exact stay hu⟩
  · have : i = ls.length := by simp at hi; omega
    subst this
    exact ⟨_, by rw [List.getElem?_append_right (by rw [h.len]; exact Nat.le_refl _), h.len, Nat.sub_self]; rfl, by rw [List.getElem_append_right (by omega)]; simpa using stay hz⟩
set_option maxHeartbeats 8000000 in
theorem rsplit_no (id : Int) (a : Option Addr) (cap : Nat) (b : List (BitVec 8)) (s : Int) (w : World) (hb9 : b.length ≤ 140737488351232) (h : ¬ (idB id = true ∧ 1 ≤ s ∧ s ≤ 4096 ∧ b.length ≤ 65536 ∧ npc b.length s.toNat ≤ 256)) (hs64 : -9223372036854775808 ≤ s ∧ s ≤ 9223372036854775807) :
    Calls Try.prog 7 #[.int .i64 id, .slice a b.length cap, .int .i64 s] w fun e w' => e = .returned (.tuple #[.slice none 0 0, .int .i64 (splE id b.length s)]) ∧ w = w' := by
  have HI : Hid _ := right7_any id w
  by_cases h1 : idB id = true ∧ 1 ≤ s ∧ s ≤ 4096
  · obtain ⟨h1, h2, h3⟩ := h1
    have hE : splE id b.length s = 3 := by
      unfold splE
      rw [if_pos ⟨h1, h2, h3⟩, if_neg (fun e => h ⟨h1, h2, h3, e.1, e.2⟩)]
    rw [hE]
    rw [h1] at HI
    obtain ⟨n, rfl⟩ : ∃ n : Nat, s = n := ⟨s.toNat, by omega⟩
    rw [Int.toNat_natCast] at h
    have hq : ((b.length : Int) + (n : Int) - 1) / (n : Int) = (((b.length + n - 1) / n : Nat) : Int) := by
      rw [Int.natCast_ediv, show ((b.length + n - 1 : Nat) : Int) = (b.length : Int) + (n : Int) - 1 by omega]
    have hq2 : ((b.length : Int) + (n : Int) - 1).tdiv (n : Int) = (((b.length + n - 1) / n : Nat) : Int) := by
      rw [Int.tdiv_eq_ediv_of_nonneg (by omega)]; exact hq
    have hle : (b.length + n - 1) / n ≤ b.length + n := Nat.le_trans (Nat.div_le_self _ _) (by omega)
    have hN : npc b.length n = max 1 ((b.length + n - 1) / n) := rfl
    generalize (b.length + n - 1) / n = Q at *
    rw [hN] at h
    by_cases hb : b.length ≤ 65536
    · have hQ : 256 < Q := by
        by_cases hx : 256 < Q
        · exact hx
        · exact absurd ⟨h1, h2, h3, hb, by omega⟩ h
      have g1 : ¬ ((65536 : Int) < (b.length : Int)) := by omega
      have g2 : (256 : Int) < (Q : Int) := by omega
      have g3 : ¬ ((Q : Int) = 0) := by omega
      have g4 : ((Q : Int) == 0) = false := by rw [beq_eq_false_iff_ne]; exact g3
      clear h hE hN
      go_enter Try.func7, Try.ntmps7
      go_wp2_with fail
      refine (Calls.mono HI.out) ?_
      rintro e _ ⟨rfl, rfl⟩
      go_wp2
      go_ret2
      exact ⟨rfl, rfl⟩
    · have g1 : (65536 : Int) < (b.length : Int) := by omega
      clear h hE hN
      by_cases hz : Q = 0
      · subst hz
        go_enter Try.func7, Try.ntmps7
        go_wp2_with fail
        refine (Calls.mono HI.out) ?_
        rintro e _ ⟨rfl, rfl⟩
        go_wp2
        go_ret2
        exact ⟨rfl, rfl⟩
      · have g3 : ¬ ((Q : Int) = 0) := by omega
        have g4 : ((Q : Int) == 0) = false := by rw [beq_eq_false_iff_ne]; exact g3
        go_enter Try.func7, Try.ntmps7
        go_wp2_with fail
        refine (Calls.mono HI.out) ?_
        rintro e _ ⟨rfl, rfl⟩
        go_wp2
        go_ret2
        exact ⟨rfl, rfl⟩
  · have hE : splE id b.length s = 1 := by unfold splE; rw [if_neg h1]
    rw [hE]
    clear h hE
    cases hib : idB id with
    | false =>
      rw [hib] at HI
      go_enter Try.func7, Try.ntmps7
      go_wp2_with fail
      refine (Calls.mono HI.out) ?_
      rintro e _ ⟨rfl, rfl⟩
      go_wp2
      go_ret2
      exact ⟨rfl, rfl⟩
    | true =>
      rw [hib] at HI h1
      by_cases g1 : s < 1
      · clear h1
        go_enter Try.func7, Try.ntmps7
        go_wp2_with fail
        refine (Calls.mono HI.out) ?_
        rintro e _ ⟨rfl, rfl⟩
        go_wp2
        go_ret2
        exact ⟨rfl, rfl⟩
      · have g2 : 4096 < s := by
          by_cases hx : 4096 < s
          · exact hx
          · exact absurd ⟨rfl, by omega, by omega⟩ h1
        clear h1
        go_enter Try.func7, Try.ntmps7
        go_wp2_with fail
        refine (Calls.mono HI.out) ?_
        rintro e _ ⟨rfl, rfl⟩
        go_wp2
        go_ret2
        exact ⟨rfl, rfl⟩
set_option maxHeartbeats 16000000 in
theorem rsplit_yes (id : Int) (a : Option Addr) (cap : Nat) (b : List (BitVec 8)) (s : Nat) (w : World) (hid : idB id = true) (hs : 1 ≤ s) (hs2 : s ≤ 4096) (hb : b.length ≤ 65536) (hn : npc b.length s ≤ 256) (hc : b.length ≤ cap) (hr : Row w a b) (hnil : a = none → cap = 0) :
    Calls Try.prog 7 #[.int .i64 id, .slice a b.length cap, .int .i64 s] w fun e w' => ∃ v vs, e = .returned (.tuple #[v, .int .i64 0]) ∧ LsO w' w.heap.size v vs (splL id b s (npc b.length s)) ∧ Below w.heap.size w w' := by
  have HI : Hid _ := right7_any id w
  rw [hid] at HI
  have h1n := npc_1 b.length s
  have hmost := npc_most b.length s hs
  obtain ⟨N, hN⟩ : ∃ N, N = npc b.length s := ⟨_, rfl⟩
  have hq : ((b.length : Int) + (s : Int) - 1) / (s : Int) = (((b.length + s - 1) / s : Nat) : Int) := by
    rw [Int.natCast_ediv, show ((b.length + s - 1 : Nat) : Int) = (b.length : Int) + (s : Int) - 1 by omega]
  have hq2 : ((b.length : Int) + (s : Int) - 1).tdiv (s : Int) = (((b.length + s - 1) / s : Nat) : Int) := by
    rw [Int.tdiv_eq_ediv_of_nonneg (by omega)]; exact hq
  have hN0 : N = max 1 ((b.length + s - 1) / s) := hN
  have HNN : Hid (npc b.length s = N) := hN.symm
  have hqb : (b.length + s - 1) / s ≤ 256 := by omega
  rw [← hN] at hn h1n hmost
  rw [← hN]
  clear hN
  generalize (b.length + s - 1) / s = Q at *
  have HR : Hid (Row w a b ∧ (a = none → cap = 0) ∧ b.length ≤ cap) := ⟨hr, hnil, hc⟩
  have HSu : Hid (∀ W, Below w.heap.size w W → Calls Try.prog 32 #[.slice a b.length cap] W fun e w' => e = .returned (.int .u32 ((Crc.sum b).toNat : Int)) ∧ W = w') := fun W hW => rsum_any a b.length cap b W rfl (by unfold maxLen; omega) (hr.later hW)
  have HM : Hid _ := hmost
  clear hr hnil hc hmost hid
  have g1 : ¬ ((65536 : Int) < (b.length : Int)) := by omega
  have g2 : ¬ ((256 : Int) < (N : Int)) := by omega
  have hs3 : decide ((s : Int) < 1) = false := by rw [decide_eq_false_iff_not]; omega
  have hs4 : decide ((4096 : Int) < (s : Int)) = false := by rw [decide_eq_false_iff_not]; omega
  have hs5 : decide ((65536 : Int) < (b.length : Int)) = false := by rw [decide_eq_false_iff_not]; omega
  have HQN : Hid (N = max 1 Q) := hN0
  clear hN0
  by_cases hz : Q = 0
  · have hN1 : N = 1 := by have := HQN.out; omega
    subst hz
    clear HQN
    subst hN1
    go_enter Try.func7, Try.ntmps7
    go_wp2_with fail
    refine (Calls.mono HI.out) ?_
    rintro e _ ⟨rfl, rfl⟩
    clear HI
    go_wp2_with fail
    go_loopw [9, 10] (fun ov iv wr => ∃ (k : Nat) (vs : List Value), k ≤ 1 ∧ iv = .int .i64 k ∧ LsO wr w.heap.size ov vs (splL id b s k) ∧ Below w.heap.size w wr) (fun _ iv _ => 1 - (intOf iv).toNat)
    case atStart => exact ⟨0, [], by omega, rfl, LsO.nil _ _, Below.refl _ _⟩
    case round =>
      obtain ⟨k, vs, hk, rfl, hL, hbw⟩ := hrel
      by_cases hlt : k < 1
      · have hm1 := HM.out k hlt
        have hks : (k + 1) * s = k * s + s := Nat.succ_mul k s
        have q1 : (k : Int) < (1 : Int) := by omega
        obtain ⟨oa, on, oc, hov⟩ := lso_slice hL
        subst hov
        obtain ⟨ls, hls⟩ : ∃ ls, ls = splL id b s k := ⟨_, rfl⟩
        have HLS : Hid _ := hls
        rw [← hls] at hL
        have HV : Hid (LsO wr w.heap.size (.slice oa on oc) vs ls) := hL
        have HB : Hid (Below w.heap.size w wr) := hbw
        have HLn : Hid (ls.length ≤ 256) := (show ls.length ≤ 256 by rw [hls, splL_len]; omega)
        clear hls hL hbw
        obtain ⟨A, hA⟩ : ∃ A, A = k * s := ⟨_, rfl⟩
        obtain ⟨A1, hA1⟩ : ∃ A1, A1 = (k + 1) * s := ⟨_, rfl⟩
        have c1 : ((k : Int) + 1) * (s : Int) = (A1 : Int) := by rw [hA1]; push_cast; rfl
        have c2 : (k : Int) * (s : Int) = (A : Int) := by rw [hA]; push_cast; rfl
        have HAA : Hid (A = k * s ∧ A1 = A + s) := ⟨hA, by rw [hA1, hks, hA]⟩
        have hA7 : A1 ≤ A + s := by have := HAA.out.2; omega
        have hA8 : A + s ≤ A1 := by have := HAA.out.2; omega
        rw [← hA] at hm1
        clear hks hA hA1
        have c3 : (A1 : Int) ≤ 100000000 := by omega
        have c4 : (A : Int) ≤ 100000000 := by omega
        by_cases hov : b.length < A1
        · have hE1 : A ≤ b.length ∧ b.length ≤ b.length := ⟨by omega, by omega⟩
          obtain ⟨y, hy1, hy2, hy3⟩ := slice_both7 HR.out.1 rfl HR.out.2.2 HR.out.2.1 A b.length hE1.1 hE1.2
          have hdt : (b.drop A).take (b.length - A) = (b.drop A).take s := by
            rw [List.take_of_length_le (by rw [List.length_drop]; omega), List.take_of_length_le (by rw [List.length_drop]; omega)]
          have hdl : ((b.drop A).take (b.length - A)).length = b.length - A := by rw [List.length_take, List.length_drop]; omega
          have hes : b.length - A ≤ 4096 := by omega
          rw [hdt] at hy3 hdl
          have HPc : Hid (∀ W, Below w.heap.size w W → Calls Try.prog 31 #[.int .i64 id, .int .i64 k, .int .i64 1, .int .u32 ((Crc.sum b).toNat : Int), .slice y (b.length - A) (cap - A)] W fun r w' => ∃ z, r = .returned z ∧ Own w' W.heap.size z (pieceI id b s k) ∧ Below W.heap.size W w') := fun W hW => by
            have := rpiece_any id k 1 (Crc.sum b) y (cap - A) ((b.drop A).take s) W ⟨by omega, by omega⟩ ⟨by omega, by omega⟩ (by omega) (by have := HR.out.2.2; omega) hy2 (hy3 W (HR.out.1.later hW))
            rw [hdl] at this
            unfold pieceI
            rw [HNN.out, ← HAA.out.1]
            exact this
          have HSL : Hid _ := And.intro hy1 trivial
          have c5 : (b.length : Int) < (A1 : Int) := by omega
          clear hdt hdl hes hE1 hy1 hy2 hy3
          go_upto_region 15 with fail
          refine wp_region_held_drew (S := fun W => Below w.heap.size w W) (by kernel_rfl) (HB.out.drew) (fun hS => ?_)
          refine any_take (i := 0) (v := ?_) rfl (by kernel_rfl) (by kernel_rfl) (by kernel_rfl) (by exact fun _ _ _ h => h) (by rfl) ?_ hS ?_
          rotate_left
          · ((intro w hSw; (try dsimp only at hSw); go_simp) <;> with_reducible rfl)
          (try simp only [Act.put, List.setIfInBounds_toArray, List.set_cons_zero, List.set_cons_succ])
          refine any_take (i := 1) (v := ?_) rfl (by kernel_rfl) (by kernel_rfl) (by kernel_rfl) (by exact fun _ _ _ h => h) (by rfl) ?_ hS ?_
          rotate_left
          · ((intro w hSw; (try dsimp only at hSw); go_simp) <;> with_reducible rfl)
          (try simp only [Act.put, List.setIfInBounds_toArray, List.set_cons_zero, List.set_cons_succ])
          refine any_take (i := 2) (v := ?_) rfl (by kernel_rfl) (by kernel_rfl) (by kernel_rfl) (by exact fun _ _ _ h => h) (by rfl) ?_ hS ?_
          rotate_left
          · ((intro w hSw; (try dsimp only at hSw); go_simp) <;> with_reducible rfl)
          (try simp only [Act.put, List.setIfInBounds_toArray, List.set_cons_zero, List.set_cons_succ])
          refine any_take (i := 3) (v := ?_) rfl (by kernel_rfl) (by kernel_rfl) (by kernel_rfl) (by exact fun _ _ _ h => h) (by rfl) ?_ hS ?_
          rotate_left
          · ((intro w hSw; (try dsimp only at hSw); go_simp) <;> with_reducible rfl)
          (try simp only [Act.put, List.setIfInBounds_toArray, List.set_cons_zero, List.set_cons_succ])
          refine any_take (i := 4) (v := ?_) rfl (by kernel_rfl) (by kernel_rfl) (by kernel_rfl) (by exact fun _ _ _ h => h) (by rfl) ?_ hS ?_
          rotate_left
          · ((intro w hSw; (try dsimp only at hSw); go_simp) <;> with_reducible rfl)
          (try simp only [Act.put, List.setIfInBounds_toArray, List.set_cons_zero, List.set_cons_succ])
          refine any_take (i := 6) (v := ?_) rfl (by kernel_rfl) (by kernel_rfl) (by kernel_rfl) (by exact fun _ _ _ h => h) (by rfl) ?_ hS ?_
          rotate_left
          · ((intro w hSw; (try dsimp only at hSw); go_simp) <;> with_reducible rfl)
          (try simp only [Act.put, List.setIfInBounds_toArray, List.set_cons_zero, List.set_cons_succ])
          refine any_take (i := 7) (v := ?_) rfl (by kernel_rfl) (by kernel_rfl) (by kernel_rfl) (by exact fun _ _ _ h => h) (by rfl) ?_ hS ?_
          rotate_left
          · ((intro w hSw; (try dsimp only at hSw); go_simp) <;> with_reducible rfl)
          (try simp only [Act.put, List.setIfInBounds_toArray, List.set_cons_zero, List.set_cons_succ])
          refine any_take (i := 8) (v := ?_) rfl (by kernel_rfl) (by kernel_rfl) (by kernel_rfl) (by exact fun _ _ _ h => h) (by rfl) ?_ hS ?_
          rotate_left
          · ((intro w hSw; (try dsimp only at hSw); go_simp) <;> with_reducible rfl)
          (try simp only [Act.put, List.setIfInBounds_toArray, List.set_cons_zero, List.set_cons_succ])
          refine any_take (i := 9) (v := .int .i64 (A : Int)) rfl (by kernel_rfl) (by kernel_rfl) (by kernel_rfl) (by exact fun _ _ _ h => h) (by rfl) ?_ hS ?_
          · intro W hSW; go_simp; rw [IntKind.wrap_i64]; omega
          (try simp only [Act.put, List.setIfInBounds_toArray, List.set_cons_zero, List.set_cons_succ])
          refine any_take (i := 10) (v := ?_) rfl (by kernel_rfl) (by kernel_rfl) (by kernel_rfl) (by exact fun _ _ _ h => h) (by rfl) ?_ hS ?_
          rotate_left
          · ((intro w hSw; (try dsimp only at hSw); go_simp) <;> with_reducible rfl)
          (try simp only [Act.put, List.setIfInBounds_toArray, List.set_cons_zero, List.set_cons_succ])
          refine any_take (i := 11) (v := .slice y (b.length - A) (cap - A)) rfl (by kernel_rfl) (by kernel_rfl) (by kernel_rfl) (by exact fun _ _ _ h => h) (by rfl) ?_ hS ?_
          · intro W hSW; exact exec_slice7 rfl rfl (HSL.out.1 W)
          (try simp only [Act.put, List.setIfInBounds_toArray, List.set_cons_zero, List.set_cons_succ])
          refine any_one (i := 5) rfl (by kernel_rfl) (fun K hK => ?_)
          go_simp
          refine (Calls.mono ((HSu.out _ hS))) ?_
          rintro e _ ⟨rfl, rfl⟩
          go_wp2_with fail
          refine hK.out _ _ hS ?_
          clear hK K
          refine any_one (i := 12) rfl (by kernel_rfl) (fun K hK => ?_)
          go_simp
          refine (Calls.mono ((HPc.out _ hS))) ?_
          rintro e x2 ⟨z, rfl, oz, hbR⟩
          obtain ⟨za, zn, zc, rfl⟩ := own_slice oz
          have hS1 := hS.trans (hbR.mono hS.size)
          have al : Below x2.heap.size x2 (x2.alloc (.cells #[.slice za zn zc] 22)) := (Below.refl _ _).alloc (Nat.le_refl _) _
          have Bk : Blk (x2.alloc (.cells #[.slice za zn zc] 22)) x2.heap.size 22 [.slice za zn zc] := Blk.new' x2 _ _
          obtain ⟨v', wN, hrun, hN, hgN⟩ := app_list7 (x2.alloc (.cells #[.slice za zn zc] 22)) w.heap.size (.slice oa on oc) vs ls (.slice za zn zc) _ x2.heap.size (((HV.out.later (Below.refl _ _).drew).later hbR).later al) Bk ((oz.lower hS.size).later al) (by have := HLn.out; omega) (hS1.trans (al.mono hS1.size)).size
          have hS2 := hS1.trans (al.mono hS1.size)
          have hbN := hS2.grown hgN hS2.size (fun k' hk' => (World.ownsRow.lt (((HV.out.later (Below.refl _ _).drew).later hbR).later al).own k' hk').1)
          have FN : Hid _ := And.intro hN hbN
          clear Bk hN hgN oz al hbR
          go_wp2_with fail
          refine hK.out _ _ (hS1) ?_
          clear hK K hS
          have hS := hS1
          clear hS
          refine any_on (i := 13) rfl (by kernel_rfl) (fun K hK => ?_)
          go_simp
          refine hK.out _ _ (hS2) (fun hS => ?_)
          clear hK K
          refine any_on (i := 14) rfl (by kernel_rfl) (fun K hK => ?_)
          refine step_app7 rfl _ _ _ _ rfl _ _ rfl rfl hrun ?_
          refine hK.out _ _ hbN (fun hS9 => ?_)
          clear hK K hS
          have hS := hS9
          clear hS9
          obtain ⟨na, nn, nc, hnv⟩ := lso_slice FN.out.1
          subst hnv
          refine any_take (i := 15) (v := ?_) rfl (by kernel_rfl) (by kernel_rfl) (by kernel_rfl) (by exact fun _ _ _ h => h) (by rfl) ?_ hS ?_
          rotate_left
          · ((intro w hSw; (try dsimp only at hSw); go_simp) <;> with_reducible rfl)
          (try simp only [Act.put, List.setIfInBounds_toArray, List.set_cons_zero, List.set_cons_succ])
          refine wpAnyH_done (by kernel_rfl) ?_ _
          have F : Hid _ := And.intro FN.out.1 FN.out.2
          clear FN hS
          go_wp2
          go_roundw
          case rel => exact ⟨k + 1, _, by omega, by go_num, by rw [splL_succ, ← HLS.out]; exact F.out.1, F.out.2⟩
          case measure => simp [intOf]; omega
        · have hE1 : A ≤ A1 ∧ A1 ≤ b.length := ⟨by omega, by omega⟩
          obtain ⟨y, hy1, hy2, hy3⟩ := slice_both7 HR.out.1 rfl HR.out.2.2 HR.out.2.1 A A1 hE1.1 hE1.2
          have hdt : (b.drop A).take (A1 - A) = (b.drop A).take s := by
            congr 1; omega
          have hdl : ((b.drop A).take (A1 - A)).length = A1 - A := by rw [List.length_take, List.length_drop]; omega
          have hes : A1 - A ≤ 4096 := by omega
          rw [hdt] at hy3 hdl
          have HPc : Hid (∀ W, Below w.heap.size w W → Calls Try.prog 31 #[.int .i64 id, .int .i64 k, .int .i64 1, .int .u32 ((Crc.sum b).toNat : Int), .slice y (A1 - A) (cap - A)] W fun r w' => ∃ z, r = .returned z ∧ Own w' W.heap.size z (pieceI id b s k) ∧ Below W.heap.size W w') := fun W hW => by
            have := rpiece_any id k 1 (Crc.sum b) y (cap - A) ((b.drop A).take s) W ⟨by omega, by omega⟩ ⟨by omega, by omega⟩ (by omega) (by have := HR.out.2.2; omega) hy2 (hy3 W (HR.out.1.later hW))
            rw [hdl] at this
            unfold pieceI
            rw [HNN.out, ← HAA.out.1]
            exact this
          have HSL : Hid _ := And.intro hy1 trivial
          have c5 : ¬ ((b.length : Int) < (A1 : Int)) := by omega
          clear hdt hdl hes hE1 hy1 hy2 hy3
          go_upto_region 15 with fail
          refine wp_region_held_drew (S := fun W => Below w.heap.size w W) (by kernel_rfl) (HB.out.drew) (fun hS => ?_)
          refine any_take (i := 0) (v := ?_) rfl (by kernel_rfl) (by kernel_rfl) (by kernel_rfl) (by exact fun _ _ _ h => h) (by rfl) ?_ hS ?_
          rotate_left
          · ((intro w hSw; (try dsimp only at hSw); go_simp) <;> with_reducible rfl)
          (try simp only [Act.put, List.setIfInBounds_toArray, List.set_cons_zero, List.set_cons_succ])
          refine any_take (i := 1) (v := ?_) rfl (by kernel_rfl) (by kernel_rfl) (by kernel_rfl) (by exact fun _ _ _ h => h) (by rfl) ?_ hS ?_
          rotate_left
          · ((intro w hSw; (try dsimp only at hSw); go_simp) <;> with_reducible rfl)
          (try simp only [Act.put, List.setIfInBounds_toArray, List.set_cons_zero, List.set_cons_succ])
          refine any_take (i := 2) (v := ?_) rfl (by kernel_rfl) (by kernel_rfl) (by kernel_rfl) (by exact fun _ _ _ h => h) (by rfl) ?_ hS ?_
          rotate_left
          · ((intro w hSw; (try dsimp only at hSw); go_simp) <;> with_reducible rfl)
          (try simp only [Act.put, List.setIfInBounds_toArray, List.set_cons_zero, List.set_cons_succ])
          refine any_take (i := 3) (v := ?_) rfl (by kernel_rfl) (by kernel_rfl) (by kernel_rfl) (by exact fun _ _ _ h => h) (by rfl) ?_ hS ?_
          rotate_left
          · ((intro w hSw; (try dsimp only at hSw); go_simp) <;> with_reducible rfl)
          (try simp only [Act.put, List.setIfInBounds_toArray, List.set_cons_zero, List.set_cons_succ])
          refine any_take (i := 4) (v := ?_) rfl (by kernel_rfl) (by kernel_rfl) (by kernel_rfl) (by exact fun _ _ _ h => h) (by rfl) ?_ hS ?_
          rotate_left
          · ((intro w hSw; (try dsimp only at hSw); go_simp) <;> with_reducible rfl)
          (try simp only [Act.put, List.setIfInBounds_toArray, List.set_cons_zero, List.set_cons_succ])
          refine any_take (i := 6) (v := ?_) rfl (by kernel_rfl) (by kernel_rfl) (by kernel_rfl) (by exact fun _ _ _ h => h) (by rfl) ?_ hS ?_
          rotate_left
          · ((intro w hSw; (try dsimp only at hSw); go_simp) <;> with_reducible rfl)
          (try simp only [Act.put, List.setIfInBounds_toArray, List.set_cons_zero, List.set_cons_succ])
          refine any_take (i := 7) (v := ?_) rfl (by kernel_rfl) (by kernel_rfl) (by kernel_rfl) (by exact fun _ _ _ h => h) (by rfl) ?_ hS ?_
          rotate_left
          · ((intro w hSw; (try dsimp only at hSw); go_simp) <;> with_reducible rfl)
          (try simp only [Act.put, List.setIfInBounds_toArray, List.set_cons_zero, List.set_cons_succ])
          refine any_take (i := 8) (v := ?_) rfl (by kernel_rfl) (by kernel_rfl) (by kernel_rfl) (by exact fun _ _ _ h => h) (by rfl) ?_ hS ?_
          rotate_left
          · ((intro w hSw; (try dsimp only at hSw); go_simp) <;> with_reducible rfl)
          (try simp only [Act.put, List.setIfInBounds_toArray, List.set_cons_zero, List.set_cons_succ])
          refine any_take (i := 9) (v := .int .i64 (A : Int)) rfl (by kernel_rfl) (by kernel_rfl) (by kernel_rfl) (by exact fun _ _ _ h => h) (by rfl) ?_ hS ?_
          · intro W hSW; go_simp; rw [IntKind.wrap_i64]; omega
          (try simp only [Act.put, List.setIfInBounds_toArray, List.set_cons_zero, List.set_cons_succ])
          refine any_take (i := 10) (v := ?_) rfl (by kernel_rfl) (by kernel_rfl) (by kernel_rfl) (by exact fun _ _ _ h => h) (by rfl) ?_ hS ?_
          rotate_left
          · ((intro w hSw; (try dsimp only at hSw); go_simp) <;> with_reducible rfl)
          (try simp only [Act.put, List.setIfInBounds_toArray, List.set_cons_zero, List.set_cons_succ])
          refine any_take (i := 11) (v := .slice y (A1 - A) (cap - A)) rfl (by kernel_rfl) (by kernel_rfl) (by kernel_rfl) (by exact fun _ _ _ h => h) (by rfl) ?_ hS ?_
          · intro W hSW; exact exec_slice7 rfl rfl (HSL.out.1 W)
          (try simp only [Act.put, List.setIfInBounds_toArray, List.set_cons_zero, List.set_cons_succ])
          refine any_one (i := 5) rfl (by kernel_rfl) (fun K hK => ?_)
          go_simp
          refine (Calls.mono ((HSu.out _ hS))) ?_
          rintro e _ ⟨rfl, rfl⟩
          go_wp2_with fail
          refine hK.out _ _ hS ?_
          clear hK K
          refine any_one (i := 12) rfl (by kernel_rfl) (fun K hK => ?_)
          go_simp
          refine (Calls.mono ((HPc.out _ hS))) ?_
          rintro e x2 ⟨z, rfl, oz, hbR⟩
          obtain ⟨za, zn, zc, rfl⟩ := own_slice oz
          have hS1 := hS.trans (hbR.mono hS.size)
          have al : Below x2.heap.size x2 (x2.alloc (.cells #[.slice za zn zc] 22)) := (Below.refl _ _).alloc (Nat.le_refl _) _
          have Bk : Blk (x2.alloc (.cells #[.slice za zn zc] 22)) x2.heap.size 22 [.slice za zn zc] := Blk.new' x2 _ _
          obtain ⟨v', wN, hrun, hN, hgN⟩ := app_list7 (x2.alloc (.cells #[.slice za zn zc] 22)) w.heap.size (.slice oa on oc) vs ls (.slice za zn zc) _ x2.heap.size (((HV.out.later (Below.refl _ _).drew).later hbR).later al) Bk ((oz.lower hS.size).later al) (by have := HLn.out; omega) (hS1.trans (al.mono hS1.size)).size
          have hS2 := hS1.trans (al.mono hS1.size)
          have hbN := hS2.grown hgN hS2.size (fun k' hk' => (World.ownsRow.lt (((HV.out.later (Below.refl _ _).drew).later hbR).later al).own k' hk').1)
          have FN : Hid _ := And.intro hN hbN
          clear Bk hN hgN oz al hbR
          go_wp2_with fail
          refine hK.out _ _ (hS1) ?_
          clear hK K hS
          have hS := hS1
          clear hS
          refine any_on (i := 13) rfl (by kernel_rfl) (fun K hK => ?_)
          go_simp
          refine hK.out _ _ (hS2) (fun hS => ?_)
          clear hK K
          refine any_on (i := 14) rfl (by kernel_rfl) (fun K hK => ?_)
          refine step_app7 rfl _ _ _ _ rfl _ _ rfl rfl hrun ?_
          refine hK.out _ _ hbN (fun hS9 => ?_)
          clear hK K hS
          have hS := hS9
          clear hS9
          obtain ⟨na, nn, nc, hnv⟩ := lso_slice FN.out.1
          subst hnv
          refine any_take (i := 15) (v := ?_) rfl (by kernel_rfl) (by kernel_rfl) (by kernel_rfl) (by exact fun _ _ _ h => h) (by rfl) ?_ hS ?_
          rotate_left
          · ((intro w hSw; (try dsimp only at hSw); go_simp) <;> with_reducible rfl)
          (try simp only [Act.put, List.setIfInBounds_toArray, List.set_cons_zero, List.set_cons_succ])
          refine wpAnyH_done (by kernel_rfl) ?_ _
          have F : Hid _ := And.intro FN.out.1 FN.out.2
          clear FN hS
          go_wp2
          go_roundw
          case rel => exact ⟨k + 1, _, by omega, by go_num, by rw [splL_succ, ← HLS.out]; exact F.out.1, F.out.2⟩
          case measure => simp [intOf]; omega
      · obtain rfl : k = 1 := by omega
        have F : Hid _ := And.intro hL hbw
        clear hL hbw
        go_wp2
        go_ret2
        exact ⟨_, vs, rfl, F.out.1, F.out.2⟩
  · have hN1 : N = Q := by have := HQN.out; omega
    have g3 : ¬ ((Q : Int) = 0) := by omega
    have g4 : ((Q : Int) == 0) = false := by rw [beq_eq_false_iff_ne]; exact g3
    rw [← hN1] at hq hq2 g3 g4
    clear hN1
    go_enter Try.func7, Try.ntmps7
    go_wp2_with fail
    refine (Calls.mono HI.out) ?_
    rintro e _ ⟨rfl, rfl⟩
    clear HI
    go_wp2_with fail
    go_loopw [9, 10] (fun ov iv wr => ∃ (k : Nat) (vs : List Value), k ≤ N ∧ iv = .int .i64 k ∧ LsO wr w.heap.size ov vs (splL id b s k) ∧ Below w.heap.size w wr) (fun _ iv _ => N - (intOf iv).toNat)
    case atStart => exact ⟨0, [], by omega, rfl, LsO.nil _ _, Below.refl _ _⟩
    case round =>
      obtain ⟨k, vs, hk, rfl, hL, hbw⟩ := hrel
      by_cases hlt : k < N
      · have hm1 := HM.out k hlt
        have hks : (k + 1) * s = k * s + s := Nat.succ_mul k s
        have q1 : (k : Int) < (N : Int) := by omega
        obtain ⟨oa, on, oc, hov⟩ := lso_slice hL
        subst hov
        obtain ⟨ls, hls⟩ : ∃ ls, ls = splL id b s k := ⟨_, rfl⟩
        have HLS : Hid _ := hls
        rw [← hls] at hL
        have HV : Hid (LsO wr w.heap.size (.slice oa on oc) vs ls) := hL
        have HB : Hid (Below w.heap.size w wr) := hbw
        have HLn : Hid (ls.length ≤ 256) := (show ls.length ≤ 256 by rw [hls, splL_len]; omega)
        clear hls hL hbw
        obtain ⟨A, hA⟩ : ∃ A, A = k * s := ⟨_, rfl⟩
        obtain ⟨A1, hA1⟩ : ∃ A1, A1 = (k + 1) * s := ⟨_, rfl⟩
        have c1 : ((k : Int) + 1) * (s : Int) = (A1 : Int) := by rw [hA1]; push_cast; rfl
        have c2 : (k : Int) * (s : Int) = (A : Int) := by rw [hA]; push_cast; rfl
        have HAA : Hid (A = k * s ∧ A1 = A + s) := ⟨hA, by rw [hA1, hks, hA]⟩
        have hA7 : A1 ≤ A + s := by have := HAA.out.2; omega
        have hA8 : A + s ≤ A1 := by have := HAA.out.2; omega
        rw [← hA] at hm1
        clear hks hA hA1
        have c3 : (A1 : Int) ≤ 100000000 := by omega
        have c4 : (A : Int) ≤ 100000000 := by omega
        by_cases hov : b.length < A1
        · have hE1 : A ≤ b.length ∧ b.length ≤ b.length := ⟨by omega, by omega⟩
          obtain ⟨y, hy1, hy2, hy3⟩ := slice_both7 HR.out.1 rfl HR.out.2.2 HR.out.2.1 A b.length hE1.1 hE1.2
          have hdt : (b.drop A).take (b.length - A) = (b.drop A).take s := by
            rw [List.take_of_length_le (by rw [List.length_drop]; omega), List.take_of_length_le (by rw [List.length_drop]; omega)]
          have hdl : ((b.drop A).take (b.length - A)).length = b.length - A := by rw [List.length_take, List.length_drop]; omega
          have hes : b.length - A ≤ 4096 := by omega
          rw [hdt] at hy3 hdl
          have HPc : Hid (∀ W, Below w.heap.size w W → Calls Try.prog 31 #[.int .i64 id, .int .i64 k, .int .i64 N, .int .u32 ((Crc.sum b).toNat : Int), .slice y (b.length - A) (cap - A)] W fun r w' => ∃ z, r = .returned z ∧ Own w' W.heap.size z (pieceI id b s k) ∧ Below W.heap.size W w') := fun W hW => by
            have := rpiece_any id k N (Crc.sum b) y (cap - A) ((b.drop A).take s) W ⟨by omega, by omega⟩ ⟨by omega, by omega⟩ (by omega) (by have := HR.out.2.2; omega) hy2 (hy3 W (HR.out.1.later hW))
            rw [hdl] at this
            unfold pieceI
            rw [HNN.out, ← HAA.out.1]
            exact this
          have HSL : Hid _ := And.intro hy1 trivial
          have c5 : (b.length : Int) < (A1 : Int) := by omega
          clear hdt hdl hes hE1 hy1 hy2 hy3
          go_upto_region 15 with fail
          refine wp_region_held_drew (S := fun W => Below w.heap.size w W) (by kernel_rfl) (HB.out.drew) (fun hS => ?_)
          refine any_take (i := 0) (v := ?_) rfl (by kernel_rfl) (by kernel_rfl) (by kernel_rfl) (by exact fun _ _ _ h => h) (by rfl) ?_ hS ?_
          rotate_left
          · ((intro w hSw; (try dsimp only at hSw); go_simp) <;> with_reducible rfl)
          (try simp only [Act.put, List.setIfInBounds_toArray, List.set_cons_zero, List.set_cons_succ])
          refine any_take (i := 1) (v := ?_) rfl (by kernel_rfl) (by kernel_rfl) (by kernel_rfl) (by exact fun _ _ _ h => h) (by rfl) ?_ hS ?_
          rotate_left
          · ((intro w hSw; (try dsimp only at hSw); go_simp) <;> with_reducible rfl)
          (try simp only [Act.put, List.setIfInBounds_toArray, List.set_cons_zero, List.set_cons_succ])
          refine any_take (i := 2) (v := ?_) rfl (by kernel_rfl) (by kernel_rfl) (by kernel_rfl) (by exact fun _ _ _ h => h) (by rfl) ?_ hS ?_
          rotate_left
          · ((intro w hSw; (try dsimp only at hSw); go_simp) <;> with_reducible rfl)
          (try simp only [Act.put, List.setIfInBounds_toArray, List.set_cons_zero, List.set_cons_succ])
          refine any_take (i := 3) (v := ?_) rfl (by kernel_rfl) (by kernel_rfl) (by kernel_rfl) (by exact fun _ _ _ h => h) (by rfl) ?_ hS ?_
          rotate_left
          · ((intro w hSw; (try dsimp only at hSw); go_simp) <;> with_reducible rfl)
          (try simp only [Act.put, List.setIfInBounds_toArray, List.set_cons_zero, List.set_cons_succ])
          refine any_take (i := 4) (v := ?_) rfl (by kernel_rfl) (by kernel_rfl) (by kernel_rfl) (by exact fun _ _ _ h => h) (by rfl) ?_ hS ?_
          rotate_left
          · ((intro w hSw; (try dsimp only at hSw); go_simp) <;> with_reducible rfl)
          (try simp only [Act.put, List.setIfInBounds_toArray, List.set_cons_zero, List.set_cons_succ])
          refine any_take (i := 6) (v := ?_) rfl (by kernel_rfl) (by kernel_rfl) (by kernel_rfl) (by exact fun _ _ _ h => h) (by rfl) ?_ hS ?_
          rotate_left
          · ((intro w hSw; (try dsimp only at hSw); go_simp) <;> with_reducible rfl)
          (try simp only [Act.put, List.setIfInBounds_toArray, List.set_cons_zero, List.set_cons_succ])
          refine any_take (i := 7) (v := ?_) rfl (by kernel_rfl) (by kernel_rfl) (by kernel_rfl) (by exact fun _ _ _ h => h) (by rfl) ?_ hS ?_
          rotate_left
          · ((intro w hSw; (try dsimp only at hSw); go_simp) <;> with_reducible rfl)
          (try simp only [Act.put, List.setIfInBounds_toArray, List.set_cons_zero, List.set_cons_succ])
          refine any_take (i := 8) (v := ?_) rfl (by kernel_rfl) (by kernel_rfl) (by kernel_rfl) (by exact fun _ _ _ h => h) (by rfl) ?_ hS ?_
          rotate_left
          · ((intro w hSw; (try dsimp only at hSw); go_simp) <;> with_reducible rfl)
          (try simp only [Act.put, List.setIfInBounds_toArray, List.set_cons_zero, List.set_cons_succ])
          refine any_take (i := 9) (v := .int .i64 (A : Int)) rfl (by kernel_rfl) (by kernel_rfl) (by kernel_rfl) (by exact fun _ _ _ h => h) (by rfl) ?_ hS ?_
          · intro W hSW; go_simp; rw [IntKind.wrap_i64]; omega
          (try simp only [Act.put, List.setIfInBounds_toArray, List.set_cons_zero, List.set_cons_succ])
          refine any_take (i := 10) (v := ?_) rfl (by kernel_rfl) (by kernel_rfl) (by kernel_rfl) (by exact fun _ _ _ h => h) (by rfl) ?_ hS ?_
          rotate_left
          · ((intro w hSw; (try dsimp only at hSw); go_simp) <;> with_reducible rfl)
          (try simp only [Act.put, List.setIfInBounds_toArray, List.set_cons_zero, List.set_cons_succ])
          refine any_take (i := 11) (v := .slice y (b.length - A) (cap - A)) rfl (by kernel_rfl) (by kernel_rfl) (by kernel_rfl) (by exact fun _ _ _ h => h) (by rfl) ?_ hS ?_
          · intro W hSW; exact exec_slice7 rfl rfl (HSL.out.1 W)
          (try simp only [Act.put, List.setIfInBounds_toArray, List.set_cons_zero, List.set_cons_succ])
          refine any_one (i := 5) rfl (by kernel_rfl) (fun K hK => ?_)
          go_simp
          refine (Calls.mono ((HSu.out _ hS))) ?_
          rintro e _ ⟨rfl, rfl⟩
          go_wp2_with fail
          refine hK.out _ _ hS ?_
          clear hK K
          refine any_one (i := 12) rfl (by kernel_rfl) (fun K hK => ?_)
          go_simp
          refine (Calls.mono ((HPc.out _ hS))) ?_
          rintro e x2 ⟨z, rfl, oz, hbR⟩
          obtain ⟨za, zn, zc, rfl⟩ := own_slice oz
          have hS1 := hS.trans (hbR.mono hS.size)
          have al : Below x2.heap.size x2 (x2.alloc (.cells #[.slice za zn zc] 22)) := (Below.refl _ _).alloc (Nat.le_refl _) _
          have Bk : Blk (x2.alloc (.cells #[.slice za zn zc] 22)) x2.heap.size 22 [.slice za zn zc] := Blk.new' x2 _ _
          obtain ⟨v', wN, hrun, hN, hgN⟩ := app_list7 (x2.alloc (.cells #[.slice za zn zc] 22)) w.heap.size (.slice oa on oc) vs ls (.slice za zn zc) _ x2.heap.size (((HV.out.later (Below.refl _ _).drew).later hbR).later al) Bk ((oz.lower hS.size).later al) (by have := HLn.out; omega) (hS1.trans (al.mono hS1.size)).size
          have hS2 := hS1.trans (al.mono hS1.size)
          have hbN := hS2.grown hgN hS2.size (fun k' hk' => (World.ownsRow.lt (((HV.out.later (Below.refl _ _).drew).later hbR).later al).own k' hk').1)
          have FN : Hid _ := And.intro hN hbN
          clear Bk hN hgN oz al hbR
          go_wp2_with fail
          refine hK.out _ _ (hS1) ?_
          clear hK K hS
          have hS := hS1
          clear hS
          refine any_on (i := 13) rfl (by kernel_rfl) (fun K hK => ?_)
          go_simp
          refine hK.out _ _ (hS2) (fun hS => ?_)
          clear hK K
          refine any_on (i := 14) rfl (by kernel_rfl) (fun K hK => ?_)
          refine step_app7 rfl _ _ _ _ rfl _ _ rfl rfl hrun ?_
          refine hK.out _ _ hbN (fun hS9 => ?_)
          clear hK K hS
          have hS := hS9
          clear hS9
          obtain ⟨na, nn, nc, hnv⟩ := lso_slice FN.out.1
          subst hnv
          refine any_take (i := 15) (v := ?_) rfl (by kernel_rfl) (by kernel_rfl) (by kernel_rfl) (by exact fun _ _ _ h => h) (by rfl) ?_ hS ?_
          rotate_left
          · ((intro w hSw; (try dsimp only at hSw); go_simp) <;> with_reducible rfl)
          (try simp only [Act.put, List.setIfInBounds_toArray, List.set_cons_zero, List.set_cons_succ])
          refine wpAnyH_done (by kernel_rfl) ?_ _
          have F : Hid _ := And.intro FN.out.1 FN.out.2
          clear FN hS
          go_wp2
          go_roundw
          case rel => exact ⟨k + 1, _, by omega, by go_num, by rw [splL_succ, ← HLS.out]; exact F.out.1, F.out.2⟩
          case measure => simp [intOf]; omega
        · have hE1 : A ≤ A1 ∧ A1 ≤ b.length := ⟨by omega, by omega⟩
          obtain ⟨y, hy1, hy2, hy3⟩ := slice_both7 HR.out.1 rfl HR.out.2.2 HR.out.2.1 A A1 hE1.1 hE1.2
          have hdt : (b.drop A).take (A1 - A) = (b.drop A).take s := by
            congr 1; omega
          have hdl : ((b.drop A).take (A1 - A)).length = A1 - A := by rw [List.length_take, List.length_drop]; omega
          have hes : A1 - A ≤ 4096 := by omega
          rw [hdt] at hy3 hdl
          have HPc : Hid (∀ W, Below w.heap.size w W → Calls Try.prog 31 #[.int .i64 id, .int .i64 k, .int .i64 N, .int .u32 ((Crc.sum b).toNat : Int), .slice y (A1 - A) (cap - A)] W fun r w' => ∃ z, r = .returned z ∧ Own w' W.heap.size z (pieceI id b s k) ∧ Below W.heap.size W w') := fun W hW => by
            have := rpiece_any id k N (Crc.sum b) y (cap - A) ((b.drop A).take s) W ⟨by omega, by omega⟩ ⟨by omega, by omega⟩ (by omega) (by have := HR.out.2.2; omega) hy2 (hy3 W (HR.out.1.later hW))
            rw [hdl] at this
            unfold pieceI
            rw [HNN.out, ← HAA.out.1]
            exact this
          have HSL : Hid _ := And.intro hy1 trivial
          have c5 : ¬ ((b.length : Int) < (A1 : Int)) := by omega
          clear hdt hdl hes hE1 hy1 hy2 hy3
          go_upto_region 15 with fail
          refine wp_region_held_drew (S := fun W => Below w.heap.size w W) (by kernel_rfl) (HB.out.drew) (fun hS => ?_)
          refine any_take (i := 0) (v := ?_) rfl (by kernel_rfl) (by kernel_rfl) (by kernel_rfl) (by exact fun _ _ _ h => h) (by rfl) ?_ hS ?_
          rotate_left
          · ((intro w hSw; (try dsimp only at hSw); go_simp) <;> with_reducible rfl)
          (try simp only [Act.put, List.setIfInBounds_toArray, List.set_cons_zero, List.set_cons_succ])
          refine any_take (i := 1) (v := ?_) rfl (by kernel_rfl) (by kernel_rfl) (by kernel_rfl) (by exact fun _ _ _ h => h) (by rfl) ?_ hS ?_
          rotate_left
          · ((intro w hSw; (try dsimp only at hSw); go_simp) <;> with_reducible rfl)
          (try simp only [Act.put, List.setIfInBounds_toArray, List.set_cons_zero, List.set_cons_succ])
          refine any_take (i := 2) (v := ?_) rfl (by kernel_rfl) (by kernel_rfl) (by kernel_rfl) (by exact fun _ _ _ h => h) (by rfl) ?_ hS ?_
          rotate_left
          · ((intro w hSw; (try dsimp only at hSw); go_simp) <;> with_reducible rfl)
          (try simp only [Act.put, List.setIfInBounds_toArray, List.set_cons_zero, List.set_cons_succ])
          refine any_take (i := 3) (v := ?_) rfl (by kernel_rfl) (by kernel_rfl) (by kernel_rfl) (by exact fun _ _ _ h => h) (by rfl) ?_ hS ?_
          rotate_left
          · ((intro w hSw; (try dsimp only at hSw); go_simp) <;> with_reducible rfl)
          (try simp only [Act.put, List.setIfInBounds_toArray, List.set_cons_zero, List.set_cons_succ])
          refine any_take (i := 4) (v := ?_) rfl (by kernel_rfl) (by kernel_rfl) (by kernel_rfl) (by exact fun _ _ _ h => h) (by rfl) ?_ hS ?_
          rotate_left
          · ((intro w hSw; (try dsimp only at hSw); go_simp) <;> with_reducible rfl)
          (try simp only [Act.put, List.setIfInBounds_toArray, List.set_cons_zero, List.set_cons_succ])
          refine any_take (i := 6) (v := ?_) rfl (by kernel_rfl) (by kernel_rfl) (by kernel_rfl) (by exact fun _ _ _ h => h) (by rfl) ?_ hS ?_
          rotate_left
          · ((intro w hSw; (try dsimp only at hSw); go_simp) <;> with_reducible rfl)
          (try simp only [Act.put, List.setIfInBounds_toArray, List.set_cons_zero, List.set_cons_succ])
          refine any_take (i := 7) (v := ?_) rfl (by kernel_rfl) (by kernel_rfl) (by kernel_rfl) (by exact fun _ _ _ h => h) (by rfl) ?_ hS ?_
          rotate_left
          · ((intro w hSw; (try dsimp only at hSw); go_simp) <;> with_reducible rfl)
          (try simp only [Act.put, List.setIfInBounds_toArray, List.set_cons_zero, List.set_cons_succ])
          refine any_take (i := 8) (v := ?_) rfl (by kernel_rfl) (by kernel_rfl) (by kernel_rfl) (by exact fun _ _ _ h => h) (by rfl) ?_ hS ?_
          rotate_left
          · ((intro w hSw; (try dsimp only at hSw); go_simp) <;> with_reducible rfl)
          (try simp only [Act.put, List.setIfInBounds_toArray, List.set_cons_zero, List.set_cons_succ])
          refine any_take (i := 9) (v := .int .i64 (A : Int)) rfl (by kernel_rfl) (by kernel_rfl) (by kernel_rfl) (by exact fun _ _ _ h => h) (by rfl) ?_ hS ?_
          · intro W hSW; go_simp; rw [IntKind.wrap_i64]; omega
          (try simp only [Act.put, List.setIfInBounds_toArray, List.set_cons_zero, List.set_cons_succ])
          refine any_take (i := 10) (v := ?_) rfl (by kernel_rfl) (by kernel_rfl) (by kernel_rfl) (by exact fun _ _ _ h => h) (by rfl) ?_ hS ?_
          rotate_left
          · ((intro w hSw; (try dsimp only at hSw); go_simp) <;> with_reducible rfl)
          (try simp only [Act.put, List.setIfInBounds_toArray, List.set_cons_zero, List.set_cons_succ])
          refine any_take (i := 11) (v := .slice y (A1 - A) (cap - A)) rfl (by kernel_rfl) (by kernel_rfl) (by kernel_rfl) (by exact fun _ _ _ h => h) (by rfl) ?_ hS ?_
          · intro W hSW; exact exec_slice7 rfl rfl (HSL.out.1 W)
          (try simp only [Act.put, List.setIfInBounds_toArray, List.set_cons_zero, List.set_cons_succ])
          refine any_one (i := 5) rfl (by kernel_rfl) (fun K hK => ?_)
          go_simp
          refine (Calls.mono ((HSu.out _ hS))) ?_
          rintro e _ ⟨rfl, rfl⟩
          go_wp2_with fail
          refine hK.out _ _ hS ?_
          clear hK K
          refine any_one (i := 12) rfl (by kernel_rfl) (fun K hK => ?_)
          go_simp
          refine (Calls.mono ((HPc.out _ hS))) ?_
          rintro e x2 ⟨z, rfl, oz, hbR⟩
          obtain ⟨za, zn, zc, rfl⟩ := own_slice oz
          have hS1 := hS.trans (hbR.mono hS.size)
          have al : Below x2.heap.size x2 (x2.alloc (.cells #[.slice za zn zc] 22)) := (Below.refl _ _).alloc (Nat.le_refl _) _
          have Bk : Blk (x2.alloc (.cells #[.slice za zn zc] 22)) x2.heap.size 22 [.slice za zn zc] := Blk.new' x2 _ _
          obtain ⟨v', wN, hrun, hN, hgN⟩ := app_list7 (x2.alloc (.cells #[.slice za zn zc] 22)) w.heap.size (.slice oa on oc) vs ls (.slice za zn zc) _ x2.heap.size (((HV.out.later (Below.refl _ _).drew).later hbR).later al) Bk ((oz.lower hS.size).later al) (by have := HLn.out; omega) (hS1.trans (al.mono hS1.size)).size
          have hS2 := hS1.trans (al.mono hS1.size)
          have hbN := hS2.grown hgN hS2.size (fun k' hk' => (World.ownsRow.lt (((HV.out.later (Below.refl _ _).drew).later hbR).later al).own k' hk').1)
          have FN : Hid _ := And.intro hN hbN
          clear Bk hN hgN oz al hbR
          go_wp2_with fail
          refine hK.out _ _ (hS1) ?_
          clear hK K hS
          have hS := hS1
          clear hS
          refine any_on (i := 13) rfl (by kernel_rfl) (fun K hK => ?_)
          go_simp
          refine hK.out _ _ (hS2) (fun hS => ?_)
          clear hK K
          refine any_on (i := 14) rfl (by kernel_rfl) (fun K hK => ?_)
          refine step_app7 rfl _ _ _ _ rfl _ _ rfl rfl hrun ?_
          refine hK.out _ _ hbN (fun hS9 => ?_)
          clear hK K hS
          have hS := hS9
          clear hS9
          obtain ⟨na, nn, nc, hnv⟩ := lso_slice FN.out.1
          subst hnv
          refine any_take (i := 15) (v := ?_) rfl (by kernel_rfl) (by kernel_rfl) (by kernel_rfl) (by exact fun _ _ _ h => h) (by rfl) ?_ hS ?_
          rotate_left
          · ((intro w hSw; (try dsimp only at hSw); go_simp) <;> with_reducible rfl)
          (try simp only [Act.put, List.setIfInBounds_toArray, List.set_cons_zero, List.set_cons_succ])
          refine wpAnyH_done (by kernel_rfl) ?_ _
          have F : Hid _ := And.intro FN.out.1 FN.out.2
          clear FN hS
          go_wp2
          go_roundw
          case rel => exact ⟨k + 1, _, by omega, by go_num, by rw [splL_succ, ← HLS.out]; exact F.out.1, F.out.2⟩
          case measure => simp [intOf]; omega
      · obtain rfl : k = N := by omega
        have F : Hid _ := And.intro hL hbw
        clear hL hbw
        go_wp2
        go_ret2
        exact ⟨_, vs, rfl, F.out.1, F.out.2⟩

end Go.Proofs.Ytgonglbgejaffaa

