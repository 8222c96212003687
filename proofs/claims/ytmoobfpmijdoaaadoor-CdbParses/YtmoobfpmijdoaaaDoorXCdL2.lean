/- The walk of CdbChanged. -/
import Derived.Test.YtmoobfpmijdoaaaDoorXCdC
import Derived.Test.YtmoobfpmijdoaaaDoorXCdF
import Derived.Test.YtmoobfpmijdoaaaDoorXCd7
import Derived.Test.YtmoobfpmijdoaaaDoorXSumC
import Derived.Test.YtmoobfpmijdoaaaDoorXAid
import Derived.Test.YtmoobfpmijdoaaaDoorXWrap
namespace Go.Proofs.YtmoobfpmijdoaaaDoor
open Go.RowKit
set_option linter.unusedVariables false
set_option linter.unusedSimpArgs false
set_option maxRecDepth 4000

set_option maxHeartbeats 4000000 in
theorem eqC (d0 d1 d2 : Int) (d3 : Bool) (d4 d5 d6 c0 c1 c2 : Int) (c3 : Bool) (c4 c5 c6 : Int) (w : World) : Sem.run Tryd.prog (Op.equalIn 10000 42 (.agg #[.int .i64 d0, .int .i64 d1, .int .i64 d2, .bool d3, .int .i64 d4, .int .u64 d5, .int .i64 d6]) (.agg #[.int .i64 c0, .int .i64 c1, .int .i64 c2, .bool c3, .int .i64 c4, .int .u64 c5, .int .i64 c6])) w = .ok (d0 == c0 && (d1 == c1 && (d2 == c2 && (d3 == c3 && (d4 == c4 && (d5 == c5 && d6 == c6)))))) w := by
  have hi : ∀ a b : Int, Sem.run Tryd.prog (Op.equalIn 9999 3 (.int .i64 a) (.int .i64 b)) w = .ok (a == b) w := fun a b => run_equalIn_int w 9998 3 .i64 .i64 a b (by kernel_rfl)
  have hj : ∀ a b : Int, Sem.run Tryd.prog (Op.equalIn 9999 22 (.int .u64 a) (.int .u64 b)) w = .ok (a == b) w := fun a b => run_equalIn_int w 9998 22 .u64 .u64 a b (by kernel_rfl)
  have hb : ∀ a b : Bool, Sem.run Tryd.prog (Op.equalIn 9999 4 (.bool a) (.bool b)) w = .ok (a == b) w := fun a b => run_equalIn_bool w 9998 4 a b (by kernel_rfl)
  have h0 : ∀ v0 v1 v2 v3 v4 v5 v6 : Value, Sem.run Tryd.prog (part 3 #[v0, v1, v2, v3, v4, v5, v6] 0) w = .ok v0 w := fun _ _ _ _ _ _ _ => run_part_plain w (by kernel_rfl) rfl
  have h1 : ∀ v0 v1 v2 v3 v4 v5 v6 : Value, Sem.run Tryd.prog (part 3 #[v0, v1, v2, v3, v4, v5, v6] 1) w = .ok v1 w := fun _ _ _ _ _ _ _ => run_part_plain w (by kernel_rfl) rfl
  have h2 : ∀ v0 v1 v2 v3 v4 v5 v6 : Value, Sem.run Tryd.prog (part 3 #[v0, v1, v2, v3, v4, v5, v6] 2) w = .ok v2 w := fun _ _ _ _ _ _ _ => run_part_plain w (by kernel_rfl) rfl
  have h3 : ∀ v0 v1 v2 v3 v4 v5 v6 : Value, Sem.run Tryd.prog (part 4 #[v0, v1, v2, v3, v4, v5, v6] 3) w = .ok v3 w := fun _ _ _ _ _ _ _ => run_part_plain w (by kernel_rfl) rfl
  have h4 : ∀ v0 v1 v2 v3 v4 v5 v6 : Value, Sem.run Tryd.prog (part 3 #[v0, v1, v2, v3, v4, v5, v6] 4) w = .ok v4 w := fun _ _ _ _ _ _ _ => run_part_plain w (by kernel_rfl) rfl
  have h5 : ∀ v0 v1 v2 v3 v4 v5 v6 : Value, Sem.run Tryd.prog (part 22 #[v0, v1, v2, v3, v4, v5, v6] 5) w = .ok v5 w := fun _ _ _ _ _ _ _ => run_part_plain w (by kernel_rfl) rfl
  have h6 : ∀ v0 v1 v2 v3 v4 v5 v6 : Value, Sem.run Tryd.prog (part 3 #[v0, v1, v2, v3, v4, v5, v6] 6) w = .ok v6 w := fun _ _ _ _ _ _ _ => run_part_plain w (by kernel_rfl) rfl
  have hf : (Tryd.prog.fieldsOf 42).toList.map (fun f => (f.name, f.type, f.offset)) = [("Op", 3, 0), ("Service", 3, 1), ("Page", 3, 2), ("Vital", 4, 3), ("Type", 3, 4), ("Lba", 22, 5), ("Len", 3, 6)] := by kernel_rfl
  rw [run_equalIn_struct w 9999 42 _ _ (by kernel_rfl) (by kernel_rfl)]
  generalize (Tryd.prog.fieldsOf 42).toList = fs at hf
  have hl2 : fs.length = 7 := by have := congrArg List.length hf; simpa using this
  obtain ⟨f0, f1, f2, f3, f4, f5, f6, rfl⟩ : ∃ f0 f1 f2 f3 f4 f5 f6, fs = [f0, f1, f2, f3, f4, f5, f6] := by
    match fs, hl2 with
    | [f0, f1, f2, f3, f4, f5, f6], _ => exact ⟨f0, f1, f2, f3, f4, f5, f6, rfl⟩
  simp only [List.map_cons, List.map_nil, List.cons.injEq, Prod.mk.injEq, and_true] at hf
  obtain ⟨⟨n0, t0, o0⟩, ⟨n1, t1, o1⟩, ⟨n2, t2, o2⟩, ⟨n3, t3, o3⟩, ⟨n4, t4, o4⟩, ⟨n5, t5, o5⟩, n6, t6, o6⟩ := hf
  simp only [Op.eqFields, n0, t0, o0, n1, t1, o1, n2, t2, o2, n3, t3, o3, n4, t4, o4, n5, t5, o5, n6, t6, o6, Sem.run_bind, h0, h1, h2, h3, h4, h5, h6, hi, hj, hb, Result.andThen_ok, Sem.run_ite]
  generalize (d0 == c0) = q0
  generalize (d1 == c1) = q1
  generalize (d2 == c2) = q2
  generalize (d3 == c3) = q3
  generalize (d4 == c4) = q4
  generalize (d5 == c5) = q5
  generalize (d6 == c6) = q6
  clear hi hj hb h0 h1 h2 h3 h4 h5 h6
  cases q0 <;> simp
  cases q1 <;> simp
  cases q2 <;> simp
  cases q3 <;> simp
  cases q4 <;> simp
  cases q5 <;> simp
  all_goals (cases q6 <;> simp)
theorem zip_ok {op : Int} {r : CR} (h : findR op = some r) {vs : List (BitVec 64)} : ∀ q ∈ r.ps.zip vs, PlOk q.1.1 q.1.2 := by
  intro q hq
  obtain ⟨o, a0, b0, a1, b1, a2, b2, a3, b3, a4, b4, a5, b5, rfl, ho, p0, p1, p2, p3, p4, p5, -⟩ := (findR_ok h).1.six
  have h1 := (List.of_mem_zip hq).1
  simp only [List.mem_cons, List.not_mem_nil, or_false] at h1
  rcases h1 with h1 | h1 | h1 | h1 | h1 | h1 <;> rw [h1] <;> assumption
theorem changed_no {op sv pv : Int} {v : Bool} {tv : Int} {lb : BitVec 64} {nv : Int} {r r' : CR} {L : List (BitVec 8)} {k : Nat} {tb : BitVec 8} (hL : L = wrF r.o (r.ps.zip (valB sv pv v tv lb nv)) 6) (hk : k < L.length) (hne : bt L k ≠ (tb.toNat : Int))
    (hr : findR op = some r) (hr' : findR (bt (L.set k tb) 0) = some r') (hw : wrF r'.o (fldL r' (L.set k tb)) 6 = L.set k tb)
    {d0 d1 d2 : Int} {d3 : Bool} {d4 d5 d6 : Int} (hd : cdbL r'.o ((fldL r' (L.set k tb)).map (fun q => (q.2.toNat : Int))) = [.int .i64 d0, .int .i64 d1, .int .i64 d2, .bool d3, .int .i64 d4, .int .u64 d5, .int .i64 d6]) :
    (d0 == op && (d1 == sv && (d2 == pv && (d3 == v && (d4 == tv && (d5 == (lb.toNat : Int) && d6 == nv)))))) = false := by
  cases hq : (d0 == op && (d1 == sv && (d2 == pv && (d3 == v && (d4 == tv && (d5 == (lb.toNat : Int) && d6 == nv)))))) with
  | false => rfl
  | true =>
    exfalso
    simp only [Bool.and_eq_true, beq_iff_eq] at hq
    obtain ⟨rfl, rfl, rfl, rfl, rfl, rfl, rfl⟩ := hq
    have h := parse_build hr hr' hw hd
    rw [← hL] at h
    apply hne
    rw [h]
    unfold bt
    rw [List.getD_eq_getElem?_getD, List.getElem?_set_self hk]
    rfl
set_option maxHeartbeats 8000000 in
theorem cdbChanged_walk (c0 c1 c2 : Int) (c3 : Bool) (c4 : Int) (c5 : BitVec 64) (c6 at' : Int) (tb : BitVec 8) (w : World) (hT : TblAt w) (B0 : I64 c0 ∧ I64 c1 ∧ I64 c2 ∧ I64 c4 ∧ I64 c6) (hat : -9223372036854775808 ≤ at' ∧ at' ≤ 9223372036854775807) :
    Calls Tryd.prog 7 #[.agg #[.int .i64 c0, .int .i64 c1, .int .i64 c2, .bool c3, .int .i64 c4, .int .u64 (c5.toNat : Int), .int .i64 c6], .int .i64 at', .int .u8 (tb.toNat : Int)] w fun e w' => e = .returned (.bool true) ∧ Below w.heap.size w w' := by
  clear B0
  have B0 := Blk.new' w 42 [.int .i64 c0, .int .i64 c1, .int .i64 c2, .bool c3, .int .i64 c4, .int .u64 (c5.toNat : Int), .int .i64 c6]
  have b0_ : Below w.heap.size w (w.alloc (.cells #[.int .i64 c0, .int .i64 c1, .int .i64 c2, .bool c3, .int .i64 c4, .int .u64 (c5.toNat : Int), .int .i64 c6] 42)) := (Below.refl _ _).alloc (Nat.le_refl _) _
  obtain ⟨w0, hw0⟩ : ∃ w0, w0 = w.alloc (.cells #[.int .i64 c0, .int .i64 c1, .int .i64 c2, .bool c3, .int .i64 c4, .int .u64 (c5.toNat : Int), .int .i64 c6] 42) := ⟨_, rfl⟩
  have z0 : w0.heap.size = w.heap.size + 1 := by rw [hw0]; simp
  rw [← hw0] at B0 b0_
  have H0 : Hid (Blk w0 w.heap.size 42 [.int .i64 c0, .int .i64 c1, .int .i64 c2, .bool c3, .int .i64 c4, .int .u64 (c5.toNat : Int), .int .i64 c6] ∧ Below w.heap.size w w0 ∧ w0.heap.size = w.heap.size + 1) := ⟨B0, b0_, z0⟩
  have y0 := ck_at B0 0
  have y1 := ck_at B0 1
  have y2 := ck_at B0 2
  have y3 := ck_at B0 3
  have y4 := ck_at B0 4
  have y5 := ck_at B0 5
  have y6 := ck_at B0 6
  simp only [List.getElem?_cons_zero, List.getElem?_cons_succ] at y0 y1 y2 y3 y4 y5 y6
  have HT : Hid (∀ X, Below w.heap.size w X → TblAt X) := fun X bX => hT.later bX
  have HA : Hid _ := hat
  clear B0 b0_ z0 hT hat
  go_enter Tryd.func7, Tryd.ntmps7
  go_upto_region 1 with fail
  rw [← hw0]
  clear hw0
  go_wp2_with fail
  clear y0 y1 y2 y3 y4 y5 y6
  refine (Calls.mono (given15_any c0 c1 c2 c3 c4 (c5.toNat : Int) c6 w0)) ?_
  rintro e w1 ⟨rfl, b1⟩
  have H1 : Hid (Blk w1 w.heap.size 42 [.int .i64 c0, .int .i64 c1, .int .i64 c2, .bool c3, .int .i64 c4, .int .u64 (c5.toNat : Int), .int .i64 c6] ∧ Below w.heap.size w w1 ∧ w.heap.size < w1.heap.size) := ⟨H0.out.1.laterB b1, below_then H0.out.2.1 b1, by have := b1.size; have := H0.out.2.2; omega⟩
  clear b1 H0
  have HB : Hid _ := cBuild_any c0 c1 c2 c3 c4 c5 c6 w1 (HT.out _ H1.out.2.1)
  go_wp2_with fail
  refine (Calls.mono HB.out) ?_
  rintro e w2 ⟨z, rfl, hz, b2⟩
  have H2 : Hid (Blk w2 w.heap.size 42 [.int .i64 c0, .int .i64 c1, .int .i64 c2, .bool c3, .int .i64 c4, .int .u64 (c5.toNat : Int), .int .i64 c6] ∧ Below w.heap.size w w2) := ⟨H1.out.1.laterB b2, below_then H1.out.2.1 b2⟩
  clear b2 HB
  rcases bu_cases c0 c1 c2 c3 c4 c5 c6 with ⟨r, hr, hb⟩ | ⟨E, hb, hE⟩
  · rw [hb] at hz
    rw [show (buR c0 c1 c2 c3 c4 c5 c6).2 = 0 from by rw [hb]]
    clear hb
    have hlen := wrF_len (o := r.o) (zip_ok hr (vs := valB c1 c2 c3 c4 c5 c6)) 6
    obtain ⟨L, hLe⟩ : ∃ L, L = wrF r.o (r.ps.zip (valB c1 c2 c3 c4 c5 c6)) 6 := ⟨_, rfl⟩
    have o2 : Own w2 w1.heap.size z L := by rw [hLe]; exact hz
    rw [← hLe] at hlen
    have HL : Hid _ := And.intro hLe (And.intro hr hlen)
    clear hLe hr hz
    obtain ⟨az, cap, rfl, hle, hmx, hrw, hnn, hbs⟩ := o2.open
    have hne : az ≠ none := fun h => by have := hnn h; omega
    obtain ⟨ad, rfl⟩ := Option.ne_none_iff_exists'.1 hne
    obtain ⟨g, rfl, hg⟩ := hbs ad rfl
    have ho2 : w2.ownsRow w1.heap.size 5 1 (.slice (some ⟨g, 0, none⟩) 16 cap) 16 (vals L) := by have := o2; unfold Own at this; rw [hlen] at this; exact this
    rw [hlen]
    clear hne hnn hbs o2 hrw hle hmx hlen
    have HC0 : Calls Tryd.prog 27 #[.int .i64 at', .int .i64 16] w2 fun e w' => ∃ k : Nat, e = .returned (.int .i64 k) ∧ k < 16 ∧ w2 = w' := ct_any at' 16 w2 HA.out (by omega) (by omega)
    have HC : Hid _ := HC0
    have HO : Hid _ := And.intro ho2 hg
    clear HC0 ho2 hg
    go_wp2_with fail
    refine (Calls.mono HC.out) ?_
    rintro e _ ⟨k, rfl, hk, rfl⟩
    clear HC
    have hc := World.ownsRow.cellAt HO.out.1 k (by omega)
    rw [vals_at _ _ (by have := HL.out.2.2; omega)] at hc
    have hf := World.ownsRow.frozenAt HO.out.1 k
    have q1 : (k : Int) < 16 := by omega
    have HK : Hid _ := hk
    clear hk
    obtain ⟨T, hTo⟩ : ∃ T : Int, T = (tb.toNat : Int) := ⟨_, rfl⟩
    rw [← hTo]
    by_cases he : bt L k = T
    · have d1 : (bt L k == T) = true := by simpa using he
      generalize bt L k = BT at *
      clear he hTo
      go_wp2_with fail
      refine (Calls.mono (known15_any w2 (HT.out _ H2.out.2))) ?_
      rintro e w9 ⟨rfl, b9⟩
      have F : Hid _ := below_then H2.out.2 b9
      clear b9
      go_wp2
      go_ret
      exact ⟨rfl, F.out⟩
    · have d1 : (bt L k == T) = false := by simpa using he
      have HN : Hid _ := he
      have R := World.ownsRow.stored HO.out.1 k (.int .u8 (tb.toNat : Int))
      rw [vals_set7, ← hTo] at R
      have X3 : Own (w2.setCell ⟨g, k, none⟩ (.int .u8 T)) w1.heap.size (.slice (some ⟨g, 0, none⟩) 16 cap) (L.set k tb) ∧ Below w.heap.size w (w2.setCell ⟨g, k, none⟩ (.int .u8 T)) ∧ Blk (w2.setCell ⟨g, k, none⟩ (.int .u8 T)) w.heap.size 42 [.int .i64 c0, .int .i64 c1, .int .i64 c2, .bool c3, .int .i64 c4, .int .u64 (c5.toNat : Int), .int .i64 c6] := ⟨by unfold Own; rw [List.length_set, HL.out.2.2]; exact R.1, H2.out.2.setCell (show w.heap.size ≤ g by have := HO.out.2; have := H1.out.2.2; omega) _, H2.out.1.grown (grown_set _ _ _ _) (by have := HO.out.2; have := H1.out.2.2; simp; omega)⟩
      have HTo : Hid _ := hTo
      clear R he hTo
      obtain ⟨BT, hBT⟩ : ∃ BT, BT = bt L k := ⟨_, rfl⟩
      rw [← hBT] at hc d1
      obtain ⟨w3, hw3⟩ : ∃ w3, w3 = w2.setCell ⟨g, k, none⟩ (.int .u8 T) := ⟨_, rfl⟩
      rw [← hw3] at X3
      have H3 : Hid _ := X3
      clear X3 hBT
      go_upto_region 10 with fail
      rw [← hw3]
      clear hw3 hc hf q1 d1
      obtain ⟨M, hM⟩ : ∃ M, M = L.set k tb := ⟨_, rfl⟩
      have hml : M.length = 16 := by rw [hM, List.length_set]; exact HL.out.2.2
      obtain ⟨_, cap', e3, -, -, hr3, -, -⟩ := Own.open H3.out.1
      rw [← hM] at hr3 e3
      simp only [Value.slice.injEq] at e3
      obtain ⟨rfl, -, -⟩ := e3
      have HP0 := cParse_any (some ⟨g, 0, none⟩) cap M w3 (HT.out _ H3.out.2.1) hr3 (by omega)
      rw [hml] at HP0
      have HP : Hid _ := HP0
      have HM : Hid _ := hM
      clear HP0 hr3 hml hM
      go_wp2_with fail
      refine (Calls.mono HP.out) ?_
      rintro e w4 ⟨rfl, b4⟩
      have H4 : Hid (Blk w4 w.heap.size 42 [.int .i64 c0, .int .i64 c1, .int .i64 c2, .bool c3, .int .i64 c4, .int .u64 (c5.toNat : Int), .int .i64 c6] ∧ Below w.heap.size w w4) := ⟨H3.out.2.2.laterB b4, below_then H3.out.2.1 b4⟩
      clear b4 HP H3 H2
      rcases pa_cases M with ⟨r', hr', hw', hp⟩ | ⟨E, hp, hE⟩
      · obtain ⟨d0, d1, d2, d3, d4, d5, d6, hd⟩ : ∃ (d0 d1 d2 : Int) (d3 : Bool) (d4 d5 d6 : Int), cdbL r'.o ((fldL r' M).map (fun q => (q.2.toNat : Int))) = [.int .i64 d0, .int .i64 d1, .int .i64 d2, .bool d3, .int .i64 d4, .int .u64 d5, .int .i64 d6] := ⟨_, _, _, _, _, _, _, rfl⟩
        rw [show (paR M).1.toArray = #[.int .i64 d0, .int .i64 d1, .int .i64 d2, .bool d3, .int .i64 d4, .int .u64 d5, .int .i64 d6] from by rw [hp]; show (cdbL _ _).toArray = _; rw [hd], show (paR M).2 = 0 from by rw [hp]]
        have EQ : (d0 == c0 && (d1 == c1 && (d2 == c2 && (d3 == c3 && (d4 == c4 && (d5 == (c5.toNat : Int) && d6 == c6)))))) = false := by
          have e := HM.out
          subst e
          exact changed_no HL.out.1 (by have := HL.out.2.2; have := HK.out; omega) (by rw [← HTo.out]; exact HN.out) HL.out.2.1 hr' hw' hd
        have hu : ∀ X : World, Sem.run Tryd.prog (Op.equalIn 10000 42 (.agg #[.int .i64 d0, .int .i64 d1, .int .i64 d2, .bool d3, .int .i64 d4, .int .u64 d5, .int .i64 d6]) (.agg #[.int .i64 c0, .int .i64 c1, .int .i64 c2, .bool c3, .int .i64 c4, .int .u64 (c5.toNat : Int), .int .i64 c6])) X = .ok false X := fun X => by rw [eqC, EQ]
        clear hr' hw' hp hd EQ HL HM HN HTo HO
        have B5 := Blk.new' w4 35 [.int .i64 d0, .int .i64 d1, .int .i64 d2, .bool d3, .int .i64 d4, .int .u64 d5, .int .i64 d6]
        have b5_ : Below w4.heap.size w4 (w4.alloc (.cells #[.int .i64 d0, .int .i64 d1, .int .i64 d2, .bool d3, .int .i64 d4, .int .u64 d5, .int .i64 d6] 35)) := (Below.refl _ _).alloc (Nat.le_refl _) _
        obtain ⟨w5, hw5⟩ : ∃ w5, w5 = w4.alloc (.cells #[.int .i64 d0, .int .i64 d1, .int .i64 d2, .bool d3, .int .i64 d4, .int .u64 d5, .int .i64 d6] 35) := ⟨_, rfl⟩
        rw [← hw5] at B5 b5_
        have H5 : Hid (Blk w5 w.heap.size 42 [.int .i64 c0, .int .i64 c1, .int .i64 c2, .bool c3, .int .i64 c4, .int .u64 (c5.toNat : Int), .int .i64 c6] ∧ Below w.heap.size w w5 ∧ Blk w5 w4.heap.size 35 [.int .i64 d0, .int .i64 d1, .int .i64 d2, .bool d3, .int .i64 d4, .int .u64 d5, .int .i64 d6]) := ⟨H4.out.1.laterB b5_, below_then H4.out.2 b5_, B5⟩
        clear B5 b5_ H4
        go_upto_region 11 with fail
        rw [← hw5]
        clear hw5
        refine wp_region_held_drew (S := fun W => Below w5.heap.size w5 W) (by kernel_rfl) ((Below.refl _ _).drew) (fun hS => ?_)
        have B0 : Below w5.heap.size w5 w5.drew := ((Below.refl _ _).drew)
        refine any_take (i := 0) (v := ?_) rfl (by kernel_rfl) (by kernel_rfl) (by kernel_rfl) (by exact fun _ _ _ h => h) (by rfl) ?_ hS ?_
        rotate_left
        · ((intro w hSw; (try dsimp only at hSw); go_simp) <;> with_reducible rfl)
        (try simp only [Act.put, List.setIfInBounds_toArray, List.set_cons_zero, List.set_cons_succ])
        refine any_take (i := 1) (v := ?_) rfl (by kernel_rfl) (by kernel_rfl) (by kernel_rfl) (by exact fun _ _ _ h => h) (by rfl) ?_ hS ?_
        rotate_left
        · ((intro w hSw; (try dsimp only at hSw); go_simp) <;> with_reducible rfl)
        (try simp only [Act.put, List.setIfInBounds_toArray, List.set_cons_zero, List.set_cons_succ])
        refine any_take (i := 2) (v := ?_) rfl (by kernel_rfl) (by kernel_rfl) (by kernel_rfl) (by exact fun _ _ _ h => h) (by rfl) ?_ hS ?_
        rotate_left
        · ((intro w hSw; (try dsimp only at hSw); go_simp) <;> with_reducible rfl)
        (try simp only [Act.put, List.setIfInBounds_toArray, List.set_cons_zero, List.set_cons_succ])
        refine any_take (i := 3) (v := ?_) rfl (by kernel_rfl) (by kernel_rfl) (by kernel_rfl) (by exact fun _ _ _ h => h) (by rfl) ?_ hS ?_
        rotate_left
        · ((intro w hSw; have x0 := ck_later (show w5.cell? ⟨w4.heap.size, 0, none⟩ = some (.int .i64 d0) from ck_at H5.out.2.2 0) hSw; have x1 := ck_later (show w5.cell? ⟨w4.heap.size, 1, none⟩ = some (.int .i64 d1) from ck_at H5.out.2.2 1) hSw; have x2 := ck_later (show w5.cell? ⟨w4.heap.size, 2, none⟩ = some (.int .i64 d2) from ck_at H5.out.2.2 2) hSw; have x3 := ck_later (show w5.cell? ⟨w4.heap.size, 3, none⟩ = some (.bool d3) from ck_at H5.out.2.2 3) hSw; have x4 := ck_later (show w5.cell? ⟨w4.heap.size, 4, none⟩ = some (.int .i64 d4) from ck_at H5.out.2.2 4) hSw; have x5 := ck_later (show w5.cell? ⟨w4.heap.size, 5, none⟩ = some (.int .u64 d5) from ck_at H5.out.2.2 5) hSw; have x6 := ck_later (show w5.cell? ⟨w4.heap.size, 6, none⟩ = some (.int .i64 d6) from ck_at H5.out.2.2 6) hSw; have y0 := ck_later (show w5.cell? ⟨_, 0, none⟩ = some (.int .i64 c0) from ck_at H5.out.1 0) hSw; have y1 := ck_later (show w5.cell? ⟨_, 1, none⟩ = some (.int .i64 c1) from ck_at H5.out.1 1) hSw; have y2 := ck_later (show w5.cell? ⟨_, 2, none⟩ = some (.int .i64 c2) from ck_at H5.out.1 2) hSw; have y3 := ck_later (show w5.cell? ⟨_, 3, none⟩ = some (.bool c3) from ck_at H5.out.1 3) hSw; have y4 := ck_later (show w5.cell? ⟨_, 4, none⟩ = some (.int .i64 c4) from ck_at H5.out.1 4) hSw; have y5 := ck_later (show w5.cell? ⟨_, 5, none⟩ = some (.int .u64 (c5.toNat : Int)) from ck_at H5.out.1 5) hSw; have y6 := ck_later (show w5.cell? ⟨_, 6, none⟩ = some (.int .i64 c6) from ck_at H5.out.1 6) hSw; go_simp) <;> with_reducible rfl)
        (try simp only [Act.put, List.setIfInBounds_toArray, List.set_cons_zero, List.set_cons_succ])
        refine any_take (i := 5) (v := ?_) rfl (by kernel_rfl) (by kernel_rfl) (by kernel_rfl) (by exact fun _ _ _ h => h) (by rfl) ?_ hS ?_
        rotate_left
        · ((intro w hSw; have x0 := ck_later (show w5.cell? ⟨w4.heap.size, 0, none⟩ = some (.int .i64 d0) from ck_at H5.out.2.2 0) hSw; have x1 := ck_later (show w5.cell? ⟨w4.heap.size, 1, none⟩ = some (.int .i64 d1) from ck_at H5.out.2.2 1) hSw; have x2 := ck_later (show w5.cell? ⟨w4.heap.size, 2, none⟩ = some (.int .i64 d2) from ck_at H5.out.2.2 2) hSw; have x3 := ck_later (show w5.cell? ⟨w4.heap.size, 3, none⟩ = some (.bool d3) from ck_at H5.out.2.2 3) hSw; have x4 := ck_later (show w5.cell? ⟨w4.heap.size, 4, none⟩ = some (.int .i64 d4) from ck_at H5.out.2.2 4) hSw; have x5 := ck_later (show w5.cell? ⟨w4.heap.size, 5, none⟩ = some (.int .u64 d5) from ck_at H5.out.2.2 5) hSw; have x6 := ck_later (show w5.cell? ⟨w4.heap.size, 6, none⟩ = some (.int .i64 d6) from ck_at H5.out.2.2 6) hSw; have y0 := ck_later (show w5.cell? ⟨_, 0, none⟩ = some (.int .i64 c0) from ck_at H5.out.1 0) hSw; have y1 := ck_later (show w5.cell? ⟨_, 1, none⟩ = some (.int .i64 c1) from ck_at H5.out.1 1) hSw; have y2 := ck_later (show w5.cell? ⟨_, 2, none⟩ = some (.int .i64 c2) from ck_at H5.out.1 2) hSw; have y3 := ck_later (show w5.cell? ⟨_, 3, none⟩ = some (.bool c3) from ck_at H5.out.1 3) hSw; have y4 := ck_later (show w5.cell? ⟨_, 4, none⟩ = some (.int .i64 c4) from ck_at H5.out.1 4) hSw; have y5 := ck_later (show w5.cell? ⟨_, 5, none⟩ = some (.int .u64 (c5.toNat : Int)) from ck_at H5.out.1 5) hSw; have y6 := ck_later (show w5.cell? ⟨_, 6, none⟩ = some (.int .i64 c6) from ck_at H5.out.1 6) hSw; go_simp) <;> with_reducible rfl)
        (try simp only [Act.put, List.setIfInBounds_toArray, List.set_cons_zero, List.set_cons_succ])
        refine any_one (i := 4) rfl (by kernel_rfl) (fun K hK => ?_)
        go_simp
        refine (Calls.mono (taken15_any d0 d1 d2 d3 d4 d5 d6 _)) ?_
        rintro e x1 ⟨rfl, hbR⟩
        have B1 : Below w5.heap.size w5 x1 := below_then B0 hbR
        go_wp2_with fail
        refine hK.out _ _ (by first | exact B1 | exact hbR | exact below_then hS hbR) (any_weaken (S' := fun W => Below x1.heap.size x1 W) (fun W hW => by first | exact below_then B1 hW | exact below_then hbR hW | exact below_then (below_then hS hbR) hW) _ _ _ _ ?_)
        clear hK K hS hbR
        have hS : Below x1.heap.size x1 x1 := Below.refl _ _
        refine any_take (i := 6) (v := ?_) rfl (by kernel_rfl) (by kernel_rfl) (by kernel_rfl) (by exact fun _ _ _ h => h) (by rfl) ?_ hS ?_
        rotate_left
        · ((intro w hSw; (try dsimp only at hSw); go_simp) <;> with_reducible rfl)
        (try simp only [Act.put, List.setIfInBounds_toArray, List.set_cons_zero, List.set_cons_succ])
        refine any_take (i := 7) (v := ?_) rfl (by kernel_rfl) (by kernel_rfl) (by kernel_rfl) (by exact fun _ _ _ h => h) (by rfl) ?_ hS ?_
        rotate_left
        · ((intro w hSw; (try dsimp only at hSw); go_simp) <;> with_reducible rfl)
        (try simp only [Act.put, List.setIfInBounds_toArray, List.set_cons_zero, List.set_cons_succ])
        refine any_take (i := 8) (v := ?_) rfl (by kernel_rfl) (by kernel_rfl) (by kernel_rfl) (by exact fun _ _ _ h => h) (by rfl) ?_ hS ?_
        rotate_left
        · ((intro w hSw; (try dsimp only at hSw); go_simp) <;> with_reducible rfl)
        (try simp only [Act.put, List.setIfInBounds_toArray, List.set_cons_zero, List.set_cons_succ])
        have K2 : Hid _ := known15_any _ (HT.out _ (below_then H5.out.2.1 B1))
        refine any_one (i := 9) rfl (by kernel_rfl) (fun K hK => ?_)
        go_simp
        refine (Calls.mono (K2.out)) ?_
        rintro e x2 ⟨rfl, hbR⟩
        have B2 : Below w5.heap.size w5 x2 := below_then B1 hbR
        clear K2
        go_wp2_with fail
        refine hK.out _ _ (by first | exact B2 | exact hbR | exact below_then hS hbR) (any_weaken (S' := fun W => Below x2.heap.size x2 W) (fun W hW => by first | exact below_then B2 hW | exact below_then hbR hW | exact below_then (below_then hS hbR) hW) _ _ _ _ ?_)
        clear hK K hS hbR
        have hS : Below x2.heap.size x2 x2 := Below.refl _ _
        refine any_take (i := 10) (v := ?_) rfl (by kernel_rfl) (by kernel_rfl) (by kernel_rfl) (by exact fun _ _ _ h => h) (by rfl) ?_ hS ?_
        rotate_left
        · ((intro w hSw; (try dsimp only at hSw); go_simp) <;> with_reducible rfl)
        (try simp only [Act.put, List.setIfInBounds_toArray, List.set_cons_zero, List.set_cons_succ])
        refine any_take (i := 11) (v := ?_) rfl (by kernel_rfl) (by kernel_rfl) (by kernel_rfl) (by exact fun _ _ _ h => h) (by rfl) ?_ hS ?_
        rotate_left
        · ((intro w hSw; (try dsimp only at hSw); go_simp) <;> with_reducible rfl)
        (try simp only [Act.put, List.setIfInBounds_toArray, List.set_cons_zero, List.set_cons_succ])
        refine wpAnyH_done (by kernel_rfl) ?_ _
        have F : Hid _ := below_then H5.out.2.1 B2
        clear hS H5
        go_wp2
        go_ret
        exact ⟨rfl, F.out⟩
      · have d0 : (E != 0) = true := by simpa using hE
        rw [show (paR M).1.toArray = #[.int .i64 0, .int .i64 0, .int .i64 0, .bool false, .int .i64 0, .int .u64 0, .int .i64 0] from by rw [hp]; rfl, show (paR M).2 = E from by rw [hp]]
        clear hp hE HL HM HN HTo HO
        have B5 := Blk.new' w4 35 [.int .i64 0, .int .i64 0, .int .i64 0, .bool false, .int .i64 0, .int .u64 0, .int .i64 0]
        have b5_ : Below w4.heap.size w4 (w4.alloc (.cells #[.int .i64 0, .int .i64 0, .int .i64 0, .bool false, .int .i64 0, .int .u64 0, .int .i64 0] 35)) := (Below.refl _ _).alloc (Nat.le_refl _) _
        obtain ⟨w5, hw5⟩ : ∃ w5, w5 = w4.alloc (.cells #[.int .i64 0, .int .i64 0, .int .i64 0, .bool false, .int .i64 0, .int .u64 0, .int .i64 0] 35) := ⟨_, rfl⟩
        rw [← hw5] at B5 b5_
        have H5 : Hid (Blk w5 w.heap.size 42 [.int .i64 c0, .int .i64 c1, .int .i64 c2, .bool c3, .int .i64 c4, .int .u64 (c5.toNat : Int), .int .i64 c6] ∧ Below w.heap.size w w5 ∧ Blk w5 w4.heap.size 35 [.int .i64 0, .int .i64 0, .int .i64 0, .bool false, .int .i64 0, .int .u64 0, .int .i64 0]) := ⟨H4.out.1.laterB b5_, below_then H4.out.2 b5_, B5⟩
        clear B5 b5_ H4
        go_upto_region 11 with fail
        rw [← hw5]
        clear hw5
        refine wp_region_held_drew (S := fun W => Below w5.heap.size w5 W) (by kernel_rfl) ((Below.refl _ _).drew) (fun hS => ?_)
        have B0 : Below w5.heap.size w5 w5.drew := ((Below.refl _ _).drew)
        refine any_take (i := 0) (v := ?_) rfl (by kernel_rfl) (by kernel_rfl) (by kernel_rfl) (by exact fun _ _ _ h => h) (by rfl) ?_ hS ?_
        rotate_left
        · ((intro w hSw; (try dsimp only at hSw); go_simp) <;> with_reducible rfl)
        (try simp only [Act.put, List.setIfInBounds_toArray, List.set_cons_zero, List.set_cons_succ])
        refine any_take (i := 1) (v := ?_) rfl (by kernel_rfl) (by kernel_rfl) (by kernel_rfl) (by exact fun _ _ _ h => h) (by rfl) ?_ hS ?_
        rotate_left
        · ((intro w hSw; (try dsimp only at hSw); go_simp) <;> with_reducible rfl)
        (try simp only [Act.put, List.setIfInBounds_toArray, List.set_cons_zero, List.set_cons_succ])
        refine any_take (i := 2) (v := ?_) rfl (by kernel_rfl) (by kernel_rfl) (by kernel_rfl) (by exact fun _ _ _ h => h) (by rfl) ?_ hS ?_
        rotate_left
        · ((intro w hSw; (try dsimp only at hSw); go_simp) <;> with_reducible rfl)
        (try simp only [Act.put, List.setIfInBounds_toArray, List.set_cons_zero, List.set_cons_succ])
        refine any_skip (i := 3) rfl (by kernel_rfl) (by kernel_rfl) (by kernel_rfl) (by exact fun _ _ _ h => h) (by rfl) hS ?_
        (try simp only [Act.put, List.setIfInBounds_toArray, List.set_cons_zero, List.set_cons_succ])
        refine any_skip (i := 4) rfl (by kernel_rfl) (by kernel_rfl) (by kernel_rfl) (by exact fun _ _ _ h => h) (by rfl) hS ?_
        (try simp only [Act.put, List.setIfInBounds_toArray, List.set_cons_zero, List.set_cons_succ])
        refine any_skip (i := 5) rfl (by kernel_rfl) (by kernel_rfl) (by kernel_rfl) (by exact fun _ _ _ h => h) (by rfl) hS ?_
        (try simp only [Act.put, List.setIfInBounds_toArray, List.set_cons_zero, List.set_cons_succ])
        refine any_skip (i := 6) rfl (by kernel_rfl) (by kernel_rfl) (by kernel_rfl) (by exact fun _ _ _ h => h) (by rfl) hS ?_
        (try simp only [Act.put, List.setIfInBounds_toArray, List.set_cons_zero, List.set_cons_succ])
        refine any_take (i := 7) (v := ?_) rfl (by kernel_rfl) (by kernel_rfl) (by kernel_rfl) (by exact fun _ _ _ h => h) (by rfl) ?_ hS ?_
        rotate_left
        · ((intro w hSw; (try dsimp only at hSw); go_simp) <;> with_reducible rfl)
        (try simp only [Act.put, List.setIfInBounds_toArray, List.set_cons_zero, List.set_cons_succ])
        refine any_take (i := 8) (v := ?_) rfl (by kernel_rfl) (by kernel_rfl) (by kernel_rfl) (by exact fun _ _ _ h => h) (by rfl) ?_ hS ?_
        rotate_left
        · ((intro w hSw; (try dsimp only at hSw); go_simp) <;> with_reducible rfl)
        (try simp only [Act.put, List.setIfInBounds_toArray, List.set_cons_zero, List.set_cons_succ])
        have K1 : Hid _ := known15_any _ (HT.out _ (below_then H5.out.2.1 B0))
        refine any_one (i := 9) rfl (by kernel_rfl) (fun K hK => ?_)
        go_simp
        refine (Calls.mono (K1.out)) ?_
        rintro e x1 ⟨rfl, hbR⟩
        have B1 : Below w5.heap.size w5 x1 := below_then B0 hbR
        clear K1
        go_wp2_with fail
        refine hK.out _ _ (by first | exact B1 | exact hbR | exact below_then hS hbR) (any_weaken (S' := fun W => Below x1.heap.size x1 W) (fun W hW => by first | exact below_then B1 hW | exact below_then hbR hW | exact below_then (below_then hS hbR) hW) _ _ _ _ ?_)
        clear hK K hS hbR
        have hS : Below x1.heap.size x1 x1 := Below.refl _ _
        refine any_take (i := 10) (v := ?_) rfl (by kernel_rfl) (by kernel_rfl) (by kernel_rfl) (by exact fun _ _ _ h => h) (by rfl) ?_ hS ?_
        rotate_left
        · ((intro w hSw; (try dsimp only at hSw); go_simp) <;> with_reducible rfl)
        (try simp only [Act.put, List.setIfInBounds_toArray, List.set_cons_zero, List.set_cons_succ])
        refine any_take (i := 11) (v := ?_) rfl (by kernel_rfl) (by kernel_rfl) (by kernel_rfl) (by exact fun _ _ _ h => h) (by rfl) ?_ hS ?_
        rotate_left
        · ((intro w hSw; (try dsimp only at hSw); go_simp) <;> with_reducible rfl)
        (try simp only [Act.put, List.setIfInBounds_toArray, List.set_cons_zero, List.set_cons_succ])
        refine wpAnyH_done (by kernel_rfl) ?_ _
        have F : Hid _ := below_then H5.out.2.1 B1
        clear hS H5
        go_wp2
        go_ret
        exact ⟨rfl, F.out⟩
  · rw [show (buR c0 c1 c2 c3 c4 c5 c6).2 = E from by rw [hb]]
    rw [hb] at hz
    have ez : z = .slice none 0 0 := hz
    subst ez
    have d0 : (E != 0) = true := by simpa using hE
    clear hb hz hE
    go_wp2_with fail
    refine (Calls.mono (known15_any w2 (HT.out _ H2.out.2))) ?_
    rintro e w9 ⟨rfl, b9⟩
    have F : Hid _ := below_then H2.out.2 b9
    clear b9
    go_wp2
    go_ret
    exact ⟨rfl, F.out⟩
end Go.Proofs.YtmoobfpmijdoaaaDoor

