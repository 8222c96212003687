/- Bytes of a table. -/
import Derived.Test.YtkcbbaanlkpeiaaXDd27
namespace Go.Proofs.Ytkcbbaanlkpeiaa
open Go.RowKit
set_option linter.unusedVariables false
set_option linter.unusedSimpArgs false
set_option maxRecDepth 4000

theorem exec_index12 {P : Program} {w : World} {a : Act} {o : Oper} {t : TypeId} {x y : Operand} (ho : o.op = .index t x y) {p q u : Value} (hx : a.eval x = p) (hy : a.eval y = q) (h : (Instr.index t p q).run P w = .ok u w) : (execOp a.eval o).run P w = .ok (.value u) w := by
  simp [execOp, ho, hx, hy, h, Result.andThen]
theorem take_snoc {α : Type} (l : List α) (k : Nat) (x : α) (h : l[k]? = some x) : l.take (k + 1) = l.take k ++ [x] := by
  rw [List.take_add_one, h]
  rfl
set_option maxHeartbeats 16000000 in
theorem tbBytes_any (g : Nat) (fs : List Nx) (w : World) (h : TbP w g fs) :
    Calls Try.prog 12 #[.pointer (some ⟨g, 0, none⟩)] w fun e w' => ∃ z, e = .returned z ∧ Own w' w.heap.size z (tbB (fsm fs)) ∧ Below w.heap.size w w' := by
  have HN : Hid _ := NewWriter_any w.heap.size w (Nat.le_refl _)
  have hnn : (binOp .eql 24 (.pointer (some ⟨g, 0, none⟩)) (.pointer none)).run Try.prog w = .ok (.bool false) w := by first | rfl | kernel_rfl
  obtain ⟨AV, hAV⟩ : ∃ x, x = Value.agg (tcells fs).toArray := ⟨_, rfl⟩
  have HL : Hid (∀ W, Below w.heap.size w W → (Instr.loadAt 60 (.pointer (some ⟨g, 0, none⟩))).run Try.prog W = .ok AV W) := fun W hW => by
    rw [hAV]; exact load_tab (((tb_ok h).later hW).holds).blk h.len
  have HX : Hid (∀ (W : World) (k : Nat) (fl : Int) (v : Value) (l : List An), k < 16 → fs[k]? = some (fl, v, l) → (Instr.index 60 AV (.int .i64 k)).run Try.prog W = .ok (.agg #[.int .i64 fl, v]) W) := fun W k fl v l hk hf => by
    rw [hAV]; exact index_tab hk hf
  have HT : Hid _ := And.intro h trivial
  have hbnd : Hid (∀ k, (tbB ((fsm fs).take k)).length ≤ 6400000) := fun k => by
    have h1 := tb_len (ms := (fsm fs).take k) (fun m hm => by
      have hm' := List.mem_of_mem_take hm
      unfold fsm at hm'
      obtain ⟨f, hf, rfl⟩ := List.mem_map.1 hm'
      exact ⟨h.byt f hf, h.most f hf⟩)
    have h2 : ((fsm fs).take k).length ≤ 16 := by rw [List.length_take]; unfold fsm; rw [List.length_map, h.len]; omega
    omega
  clear h hAV
  go_enter Try.func12, Try.ntmps12
  go_wp2_with fail
  clear hnn
  refine (Calls.mono HN.out) ?_
  rintro e w1 ⟨gw, rfl, hgw, W1, b1⟩
  have K1 : Hid (KW w w1 gw (.slice none 0 0) [] []) := ⟨W1, b1, (fun b hb => by cases hb), (fun b hb => by cases hb)⟩
  have HL1 : Hid _ := HL.out w1 b1
  clear W1 b1 HN HL
  go_wp2_with (refine wpList_value rfl (exec_load rfl rfl HL1.out) ?_)
  go_loopw [17] (fun iv wr => ∃ (k : Nat) (v : Value), iv = .int .i64 k ∧ k ≤ 16 ∧ KW w wr gw v (tbB ((fsm fs).take k)) []) (fun iv _ => 16 - (intOf iv).toNat)
  case atStart => exact ⟨0, .slice none 0 0, rfl, by omega, K1.out⟩
  case round =>
    clear K1 HL1
    obtain ⟨k, v, rfl, hk, hK⟩ := hrel
    by_cases hlt : k < 16
    · obtain ⟨fl, vq, l, hf⟩ := HT.out.1.row hlt
      have hmq := List.mem_of_getElem? hf
      obtain ⟨va, vc, hv, hvc, hcells⟩ := (HT.out.1.own _ hmq).open
      simp only at hv hcells hvc
      subst hv
      have hll := HT.out.1.most _ hmq
      have hby := HT.out.1.byt _ hmq
      simp only at hll hby
      have q1 : (k : Int) < 16 := by omega
      have HX1 : Hid _ := HX.out wr k fl _ l hlt hf
      have KN := hK.new 59 [.int .i64 fl, .slice va l.length vc]
      have n0 := blk_at (KN.bx _ (List.mem_cons_self ..)) 0
      have n1 := blk_at (KN.bx _ (List.mem_cons_self ..)) 1
      simp only [List.getElem?_cons_zero, List.getElem?_cons_succ] at n0 n1
      have HS : Hid _ := ddsize_any wr.heap.size 1 va l.length vc _ n1
      have HC : Hid _ := And.intro hcells hby
      have HF : Hid _ := And.intro hf hmq
      have H1 : Hid _ := And.intro KN trivial
      have hL := hbnd.out k
      generalize hLL : tbB ((fsm fs).take k) = L at *
      have HLL : Hid _ := hLL
      clear hcells hby hf hmq hK KN hLL
      go_wp2_with (refine wpList_value rfl (exec_index12 rfl rfl rfl HX1.out) ?_)
      generalize hrc : wr.heap.size = rc at *
      generalize (wr.alloc (.cells #[.int .i64 fl, .slice va l.length vc] 59)) = wa at *
      refine (Calls.mono HS.out) ?_
      rintro e _ ⟨rfl, rfl⟩
      have N1 := wNum_any w.heap.size gw v L 0 1 l.length wa H1.out.1.wr (by omega)
      rw [wrNum_1 (⟨by omega, by omega⟩ : byteOk (l.length : Int))] at N1
      have HN1 : Hid _ := N1
      clear N1 HS n0 n1 HX1
      go_wp2_with fail
      refine (Calls.mono HN1.out) ?_
      rintro e w2 ⟨rfl, v2, W2, nw2, t2⟩
      have K2 := H1.out.1.step W2 nw2 t2
      have n0 := blk_at (K2.bx _ (List.mem_cons_self ..)) 0
      have n1 := blk_at (K2.bx _ (List.mem_cons_self ..)) 1
      simp only [List.getElem?_cons_zero, List.getElem?_cons_succ] at n0 n1
      have hL2 : (L ++ be 1 (BitVec.ofInt 64 (l.length : Int))).length ≤ 6400001 := by rw [List.length_append, be_length _ _ (by omega)]; omega
      have N2 := wNum_any w.heap.size gw v2 _ 0 8 fl w2 K2.wr (by omega)
      rw [wrNum_8] at N2
      have HN2 : Hid _ := N2
      have H2 : Hid _ := And.intro K2 trivial
      clear N2 HN1 H1 W2 nw2 t2 K2
      go_wp2_with fail
      clear n0 n1
      refine (Calls.mono HN2.out) ?_
      rintro e w3 ⟨rfl, v3, W3, nw3, t3⟩
      have K3 := H2.out.1.step W3 nw3 t3
      have n1 := blk_at (K3.bx _ (List.mem_cons_self ..)) 1
      simp only [List.getElem?_cons_zero, List.getElem?_cons_succ] at n1
      have hL3 : (L ++ be 1 (BitVec.ofInt 64 (l.length : Int)) ++ be 8 (BitVec.ofInt 64 fl)).length ≤ 6400009 := by rw [List.length_append, be_length _ _ (by omega)]; omega
      obtain ⟨L3, hL3e⟩ : ∃ x, x = L ++ be 1 (BitVec.ofInt 64 (l.length : Int)) ++ be 8 (BitVec.ofInt 64 fl) := ⟨_, rfl⟩
      rw [← hL3e] at K3 hL3
      have HE3 : Hid _ := hL3e
      have H3k : KW w w3 gw v3 (L3 ++ (l.take 0).flatMap anB) [(rc, 59, [.int .i64 fl, .slice va l.length vc])] := by simpa using K3
      have H3 : Hid _ := And.intro H3k trivial
      clear H3k
      have hans : Hid (∀ j, ((l.take j).flatMap anB).length ≤ 400000) := fun j => by
        have h1 := ans_len (l := l.take j) (fun a ha => HC.out.2 a (List.mem_of_mem_take ha))
        have h2 : (l.take j).length ≤ 64 := by rw [List.length_take]; omega
        omega
      clear HN2 H2 W3 nw3 t3 K3 hL3e hL2
      go_wp2_with fail
      clear n1
      go_loopw [32] (fun jv wr => ∃ (j : Nat) (v : Value), jv = .int .i64 j ∧ j ≤ l.length ∧ KW w wr gw v (L3 ++ (l.take j).flatMap anB) [(rc, 59, [.int .i64 fl, .slice va l.length vc])]) (fun jv _ => l.length - (intOf jv).toNat)
      case atStart => exact ⟨0, v3, rfl, by omega, H3.out.1⟩
      case round =>
        clear H3
        obtain ⟨j, vj, rfl, hj, hKj⟩ := hrel
        by_cases hjl : j < l.length
        · obtain ⟨b, rfl, -, k0, k1, k2⟩ := HC.out.1 j hjl
          obtain ⟨bs, hbs, hbl⟩ := HC.out.2 _ (List.getElem_mem hjl)
          rw [hbs] at k2
          have ht1 := take_snoc l j _ (List.getElem?_eq_getElem hjl)
          have hLj := hans.out j
          have y0 := cell_later hKj.bl k0
          have y1 := cell_later hKj.bl k1
          have y2 := cell_later hKj.bl k2
          have q2 : (j : Int) < l.length := by omega
          have e5 : anB l[j] = be 8 (BitVec.ofInt 64 l[j].2.1) ++ (be 2 (BitVec.ofNat 64 bs.length) ++ bs) := by unfold anB; rw [hbs, bsOf_str]
          generalize l[j].1 = x1 at *
          generalize hx2 : l[j].2.1 = x2 at *
          have HE5 : Hid _ := And.intro e5 ht1
          have KN := hKj.new 90 [.int .i64 x1, .int .i64 x2, .string (str bs)]
          have m0 := blk_at (KN.bx _ (List.mem_cons_self ..)) 0
          have m1 := blk_at (KN.bx _ (List.mem_cons_self ..)) 1
          have m2 := blk_at (KN.bx _ (List.mem_cons_self ..)) 2
          simp only [List.getElem?_cons_zero, List.getElem?_cons_succ] at m0 m1 m2
          have HNu : Hid _ := an_number x1 x2 (str bs) (wr.alloc (.cells #[.int .i64 x1, .int .i64 x2, .string (str bs)] 90))
          have H4 : Hid _ := And.intro KN trivial
          have hLen : (L3 ++ (l.take j).flatMap anB).length ≤ 6900000 := by rw [List.length_append]; omega
          obtain ⟨L4, hL4⟩ : ∃ x, x = L3 ++ (l.take j).flatMap anB := ⟨_, rfl⟩
          rw [← hL4] at hLen H4
          have HL4 : Hid _ := hL4
          clear hKj k0 k1 k2 KN hbs e5 ht1 hL4 hx2
          go_wp2_with fail
          generalize hra : wr.heap.size = ra at *
          generalize (wr.alloc (.cells #[.int .i64 x1, .int .i64 x2, .string (str bs)] 90)) = wb at *
          clear y0 y1 y2 m0 m1 m2
          refine (Calls.mono HNu.out) ?_
          rintro e w5 ⟨rfl, b5⟩
          have K5 := H4.out.1.later b5
          have N5 := wNum_any w.heap.size gw vj _ 0 8 x2 w5 K5.wr (by omega)
          rw [wrNum_8] at N5
          have HN5 : Hid _ := N5
          have H5 : Hid _ := And.intro K5 trivial
          clear N5 HNu H4 b5 K5
          go_wp2_with fail
          refine (Calls.mono HN5.out) ?_
          rintro e w6 ⟨rfl, v6, W6, nw6, t6⟩
          have K6 := H5.out.1.step W6 nw6 t6
          have m2 := blk_at (K6.bx _ (List.mem_cons_self ..)) 2
          simp only [List.getElem?_cons_zero, List.getElem?_cons_succ] at m2
          obtain ⟨c7, w7, hrun, hc7, s7, r7, b7⟩ := dbytes_of_str w6 bs
          have K7 := K6.later b7
          have N7 := wBytes_any w.heap.size gw v6 _ 0 2 (some ⟨w6.heap.size, 0, none⟩) bs.length c7 bs w7 K7.wr (by rw [List.length_append, be_length _ _ (by omega)]; omega) rfl hc7 r7 (fun e => by cases e) (by omega) (fun _ y hy e => by
            cases hy
            have := (K6.own _ e).2
            simp only at this
            omega)
          rw [wrBytes_2m (by omega)] at N7
          have HN7 : Hid _ := N7
          have H7 : Hid _ := And.intro K7 trivial
          clear N7 HN5 H5 W6 nw6 t6 K6 K7 s7 r7 b7 hc7
          go_wp2_with fail
          clear m2 hrun
          refine (Calls.mono HN7.out) ?_
          rintro e w8 ⟨rfl, v8, W8, nw8, t8⟩
          have K8 := (H7.out.1.step W8 nw8 t8).less (bs' := [(rc, 59, [.int .i64 fl, .slice (some ⟨b, 0, none⟩) l.length vc])]) (fun b hb => List.mem_cons_of_mem _ hb)
          have F : Hid (KW w w8 gw v8 (L3 ++ (l.take (j + 1)).flatMap anB) [(rc, 59, [.int .i64 fl, .slice (some ⟨b, 0, none⟩) l.length vc])]) := by
            rw [HE5.out.2, List.flatMap_append, List.flatMap_singleton, HE5.out.1, ← List.append_assoc, ← HL4.out, ← List.append_assoc]
            exact K8
          clear HN7 H7 W8 nw8 t8 K8
          go_wp2
          go_roundw
          case rel => exact ⟨j + 1, v8, by go_num, by omega, F.out⟩
          case measure => simp [intOf]; omega
        · obtain rfl : j = l.length := by omega
          have q2 : ¬ (l.length : Int) < l.length := by omega
          have F : Hid (KW w wr gw vj (tbB ((fsm fs).take (k + 1))) []) := by
            have e1 : (fsm fs).take (k + 1) = (fsm fs).take k ++ [(fl, l)] := take_snoc _ _ _ (by unfold fsm; rw [List.getElem?_map, HF.out.1]; rfl)
            have e2 : tbB ((fsm fs).take (k + 1)) = L3 ++ (l.take l.length).flatMap anB := by
              rw [e1, HE3.out]
              unfold tbB
              rw [List.flatMap_append, List.flatMap_singleton, List.take_length]
              rw [show ((fsm fs).take k).flatMap nexB = L from HLL.out]
              unfold nexB
              simp
            rw [e2]
            exact hKj.less (fun b hb => by cases hb)
          clear hKj
          go_wp2
          go_roundw
          case rel => exact ⟨k + 1, vj, by go_num, by omega, F.out⟩
          case measure => simp [intOf]; omega
    · obtain rfl : k = 16 := by omega
      have hL := hbnd.out 16
      have e1 : (fsm fs).take 16 = fsm fs := List.take_of_length_le (by unfold fsm; rw [List.length_map, HT.out.1.len]; exact Nat.le_refl _)
      rw [e1] at hK hL
      have NE : Hid _ := wEnd_any w.heap.size gw v _ 0 wr hK.wr (by omega)
      have HB : Hid _ := hK.bl
      clear hK e1
      rw [show ((16 : Nat) : Int) = 16 from rfl]
      go_wp2_with fail
      refine (Calls.mono NE.out) ?_
      rintro e w9 ⟨z, rfl, o9, b9⟩
      rw [show ∀ L, wrEnd L 0 = L from fun L => if_pos rfl] at o9
      obtain ⟨za, zn, zc, hz⟩ := own_slice o9
      subst hz
      have F : Hid _ := And.intro (o9.lower HB.out.size) (below_then HB.out b9)
      clear o9 b9 NE HB
      go_wp2
      go_ret
      exact ⟨_, rfl, F.out.1, F.out.2⟩
end Go.Proofs.Ytkcbbaanlkpeiaa

