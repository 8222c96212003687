/- text: digest. -/
import Derived.Test.YtligmiajlbjecaaDoorXTy0
import Derived.Test.YtligmiajlbjecaaDoorXTy3
import Derived.Test.YtligmiajlbjecaaDoorXTx8
namespace Go.Proofs.YtligmiajlbjecaaDoor
open Go.RowKit
set_option linter.unusedVariables false
set_option linter.unusedSimpArgs false
set_option maxRecDepth 8000

theorem exec_neS {w : World} {a : Act} {o : Oper} {x y : Operand} {T2 : TypeId} (ho : o.op = .binOp .neq 9 x y T2) {s t : ByteArray} {b : Bool} (hx : a.eval x = .string s) (hy : a.eval y = .string t) (h : (s.toList == t.toList) = b) : (execOp a.eval o).run Tryd.prog w = .ok (.value (.bool (!b))) w := by
  have hb : (binOp .neq 9 (.string s) (.string t)).run Tryd.prog w = .ok (.bool (!b)) w := by
    rw [← h]
    simp [binOp, Op.stringOp, go_sem, Tryd.underlying9]
  have hg : ∀ x y, (eqGuard .neq 9 x y (.string s) (.string t)).run Tryd.prog w = .ok () w := fun x y => by
    simp [eqGuard, go_sem, Tryd.underlying9]
  unfold execOp
  simp only [ho, hx, hy, Sem.run_bind, hg, hb, Result.andThen_ok, Sem.run_pure]
/-- what a digest's list makes of the flag -/
def digC (cs : List Value) (j : Nat) (d : ByteArray) : List Value := if d.toList == rejS.toList then cs else cs.set j (.bool (d.toList == crcS.toList))
set_option maxHeartbeats 8000000 in
theorem tDigest_any (g j : Nat) (s : ByteArray) (cs : List Value) (w : World) (hB : Blk w g 50 cs) (hj : j < cs.length) (hs : s.size ≤ 9223372036854775807) : Calls Tryd.prog 47 #[.string s, .pointer (some ⟨g, j, none⟩)] w fun e w' => e = .returned (.string (firstM [noneS, crcS] s)) ∧ Turned (fun k => k = g) w w' ∧ Blk w' g 50 (digC cs j (firstM [noneS, crcS] s)) := by
  have hbs := bs_str w
  have bn : Below w.heap.size w (w.alloc (.cells #[.string noneS, .string crcS] 9)) := (Below.refl _ _).alloc (Nat.le_refl _) _
  have N1 := Blk.new' w 9 [.string noneS, .string crcS]
  obtain ⟨w1, hw1⟩ : ∃ w1, w1 = w.alloc (.cells #[.string noneS, .string crcS] 9) := ⟨_, rfl⟩
  rw [← hw1] at bn N1 hbs
  obtain ⟨sb, hsb⟩ : ∃ g, g = w.heap.size := ⟨_, rfl⟩
  rw [← hsb] at N1 hbs
  have hcc : ∀ i, i < ([noneS, crcS] : List ByteArray).length → w1.cell? ⟨sb, 0 + i, none⟩ = some (.string (([noneS, crcS] : List ByteArray).getD i ByteArray.empty)) := by
    intro i hi
    have hi2 : i = 0 ∨ i = 1 := by simp at hi; omega
    rcases hi2 with rfl | rfl
    · exact ck_at N1 0
    · exact ck_at N1 1
  have HI0 := tFirst_any s [noneS, crcS] sb 2 w1 hs (by simp) hcc
  clear hcc
  obtain ⟨d, hd⟩ : ∃ d, d = firstM [noneS, crcS] s := ⟨_, rfl⟩
  rw [← hd] at HI0 ⊢
  have HI : Hid _ := HI0
  have H1 : Hid _ := And.intro bn (And.intro hB hj)
  clear bn N1 hB hbs HI0 hd hs
  obtain ⟨b1, h1⟩ : ∃ b, (d.toList == rejS.toList) = b := ⟨_, rfl⟩
  obtain ⟨b2, h2⟩ : ∃ b, (d.toList == crcS.toList) = b := ⟨_, rfl⟩
  have HD : Hid (digC cs j d = if b1 then cs else cs.set j (.bool b2)) := (by unfold digC; rw [h1, h2] : digC cs j d = if b1 then cs else cs.set j (.bool b2))
  have E1 : Hid _ := h1
  have E2 : Hid _ := h2
  clear h1 h2
  rw [HD.out]
  clear HD
  go_enter Tryd.func47, Tryd.ntmps47
  go_wp2_with fail
  rw [← hw1, ← hsb]
  clear hw1 hsb
  refine (Calls.mono HI.out) ?_
  rintro e w2 ⟨rfl, b2'⟩
  clear HI
  have B2 := H1.out.2.1.laterB (below_then H1.out.1 b2')
  have T2 : Turned (fun k => k = g) w w2 := (turned_below (below_then H1.out.1 b2')).mono (fun k h => h.elim)
  cases b1
  · have z0 := ck_at B2 j
    obtain ⟨old, hold⟩ : ∃ u, cs[j]? = some u := ⟨_, List.getElem?_eq_getElem H1.out.2.2⟩
    rw [hold] at z0
    clear hold
    have f0 := ck_fz B2 j
    have S4 := B2.set j (.bool b2)
    have T4 := T2.trans ((turned_set w2 g j (.bool b2)).mono (fun k h => .inl h))
    have F : Hid _ := And.intro T4 S4
    clear S4 T4 T2 B2 H1 b2'
    go_wp2_with (first | (refine wpList_value rfl (exec_neS rfl rfl rfl E1.out) ?_) | (refine wpList_value rfl (exec_eqS rfl rfl rfl E2.out) ?_))
    go_ret
    exact ⟨rfl, F.out.1, by simpa using F.out.2⟩
  · have F : Hid _ := And.intro T2 B2
    clear T2 B2 H1 b2'
    go_wp2_with (first | (refine wpList_value rfl (exec_neS rfl rfl rfl E1.out) ?_) | (refine wpList_value rfl (exec_eqS rfl rfl rfl E2.out) ?_))
    go_ret
    exact ⟨rfl, F.out.1, by simpa using F.out.2⟩
end Go.Proofs.YtligmiajlbjecaaDoor

/- text: agree at every key of the table. -/
namespace Go.Proofs.YtligmiajlbjecaaDoor
open Go.RowKit
set_option linter.unusedVariables false
set_option linter.unusedSimpArgs false
set_option maxRecDepth 8000

theorem bs_one (w : World) : (Instr.buildSlice 83 1 #[(0, .string noneS)]).run Tryd.prog w = .ok (.slice (some ⟨w.heap.size, 0, none⟩) 1 1) (w.alloc (.cells #[.string noneS] 9)) := by kernel_rfl
theorem tYn_any (b : Bool) (w : World) : Calls Tryd.prog 48 #[.bool b] w fun e w' => e = .returned (.string (ynS b)) ∧ w = w' := by
  go_enter Tryd.func48, Tryd.ntmps48
  cases b <;> (go_wp2; go_ret; exact ⟨rfl, rfl⟩)
theorem Pm18.len (p : Pm18) : p.c.length = 11 := rfl
theorem nu_bd (l : List UInt8) : 0 ≤ (nuR l).1 ∧ (nuR l).1 ≤ 16777215 := by
  by_cases h : numOk l = true
  · rw [nuR_ok h]
    have := ((numOk_iff l).1 h).2
    exact ⟨by simp, by simp only; omega⟩
  · rw [nuR_no (by simpa using h)]
    exact ⟨by decide, by decide⟩
set_option maxHeartbeats 8000000 in
theorem tAg_0 (g : Nat) (f lo hi : Int) (an : ByteArray) (p : Pm18) (k v : ByteArray) (w : World) (hk : KF k 0) (hB : Blk w g 50 p.c) (hP : ∀ X, Turned (fun k => k = g) w X → PowT X) (hs : v.size ≤ 9223372036854775807) : Calls Tryd.prog 38 #[.pointer (some ⟨g, 0, none⟩), .agg #[.int .i64 f, .int .i64 lo, .int .i64 hi, .string an], .agg #[.string k, .string v]] w fun e w' => e = .returned (.tuple #[.string (agM 0 an p v).2.1, .bool (agM 0 an p v).2.2]) ∧ Turned (fun k => k = g) w w' ∧ Blk w' g 50 (agM 0 an p v).1.c := by
  have HK : Hid _ := hk
  have HP : Hid _ := hP
  clear hk hP
  have N1 := Blk.new' w 65 [.int .i64 f, .int .i64 lo, .int .i64 hi, .string an]
  have bn1 : Below w.heap.size w (w.alloc (.cells #[.int .i64 f, .int .i64 lo, .int .i64 hi, .string an] 65)) := (Below.refl _ _).alloc (Nat.le_refl _) _
  obtain ⟨w1, hw1⟩ : ∃ w1, w1 = w.alloc (.cells #[.int .i64 f, .int .i64 lo, .int .i64 hi, .string an] 65) := ⟨_, rfl⟩
  rw [← hw1] at N1 bn1
  have N2 := Blk.new' w1 59 [.string k, .string v]
  have bn2 : Below w1.heap.size w1 (w1.alloc (.cells #[.string k, .string v] 59)) := (Below.refl _ _).alloc (Nat.le_refl _) _
  obtain ⟨w2, hw2⟩ : ∃ w2, w2 = w1.alloc (.cells #[.string k, .string v] 59) := ⟨_, rfl⟩
  rw [← hw2] at N2 bn2
  obtain ⟨rb, hrb⟩ : ∃ g, g = w.heap.size := ⟨_, rfl⟩
  have hz1 : w1.heap.size = w.heap.size + 1 := by rw [hw1]; simp
  obtain ⟨pb, hpb⟩ : ∃ g, g = w.heap.size + 1 := ⟨_, rfl⟩
  rw [hz1, ← hpb] at N2
  rw [← hrb] at N1
  clear hz1
  have y0 := ck_at N2 0
  have y1 := ck_at N2 1
  simp only [List.getElem?_cons_zero, List.getElem?_cons_succ] at y0 y1
  have HN0 := tNumber_any v w2
  have hnb := nu_bd v.data.toList
  obtain ⟨n, hn⟩ : ∃ n, n = (nuR v.data.toList).1 := ⟨_, rfl⟩
  obtain ⟨E, hE⟩ : ∃ E, E = (nuR v.data.toList).2 := ⟨_, rfl⟩
  rw [← hn, ← hE] at HN0
  rw [← hn] at hnb
  have HN : Hid _ := HN0
  have HG : Hid (agM 0 an p v = ({ p with ini := v }, ⟨#[]⟩, false)) := (rfl : agM 0 an p v = ({ p with ini := v }, ⟨#[]⟩, false))
  rw [HG.out]
  simp only
  have HNB : Hid _ := hnb
  clear HG hn hE HN0 hnb
  have H2 : Hid _ := And.intro (below_then bn1 bn2) (And.intro N2 (And.intro hB (N1.laterB bn2)))
  clear bn1 bn2 N1 N2 hB
  go_enter Tryd.func38, Tryd.ntmps38
  go_upto_region 1 with fail
  rw [← hw1, ← hw2, ← hpb, ← hrb]
  clear hw1 hw2 hrb hpb
  go_wp2_with fail
  refine (Calls.mono HN.out) ?_
  rintro e w3 ⟨rfl, b3⟩
  clear HN y0 y1
  have P3 := H2.out.2.1.laterB b3
  have B3 := H2.out.2.2.1.laterB (below_then H2.out.1 b3)
  have R3 := H2.out.2.2.2.laterB b3
  have T3 : Turned (fun k => k = g) w w3 := (turned_below (below_then H2.out.1 b3)).mono (fun k h => h.elim)
  clear b3 H2
  have y0 := ck_at P3 0
  have y1 := ck_at P3 1
  simp only [List.getElem?_cons_zero, List.getElem?_cons_succ] at y0 y1
  go_upto_region 5 with fail
  have E0 : Hid _ := (HK.out 0 _ rfl)
  clear HK
  unfold Pm18.c at B3
  have z0 := ck_at B3 0
  have z1 := ck_at B3 1
  have z2 := ck_at B3 2
  have z3 := ck_at B3 3
  have z4 := ck_at B3 4
  have z5 := ck_at B3 5
  have z6 := ck_at B3 6
  have z7 := ck_at B3 7
  have z8 := ck_at B3 8
  have z9 := ck_at B3 9
  have z10 := ck_at B3 10
  simp only [List.getElem?_cons_zero, List.getElem?_cons_succ] at z0 z1 z2 z3 z4 z5 z6 z7 z8 z9 z10
  have fz := ck_fz B3 9
  have S4 := B3.set 9 (.string v)
  simp only [List.set_cons_zero, List.set_cons_succ] at S4
  have T4 := T3.trans ((turned_set w3 g 9 (.string v)).mono (fun k h => .inl h))
  have F : Hid _ := And.intro T4 S4
  clear S4 T4 T3 B3 P3 R3
  go_wp2_with (refine wpList_value rfl (exec_eqS rfl rfl rfl (b := true) E0.out) ?_)
  refine bodyPost_ret (v := .tuple #[.string ⟨#[]⟩, .bool false]) (by first | rfl | simp [results, Tryd.results38, go_sem]) rfl ?_
  exact ⟨rfl, F.out.1, F.out.2⟩
set_option maxHeartbeats 8000000 in
theorem tAg_1 (g : Nat) (f lo hi : Int) (an : ByteArray) (p : Pm18) (k v : ByteArray) (w : World) (hk : KF k 1) (hB : Blk w g 50 p.c) (hP : ∀ X, Turned (fun k => k = g) w X → PowT X) (hs : v.size ≤ 9223372036854775807) : Calls Tryd.prog 38 #[.pointer (some ⟨g, 0, none⟩), .agg #[.int .i64 f, .int .i64 lo, .int .i64 hi, .string an], .agg #[.string k, .string v]] w fun e w' => e = .returned (.tuple #[.string (agM 1 an p v).2.1, .bool (agM 1 an p v).2.2]) ∧ Turned (fun k => k = g) w w' ∧ Blk w' g 50 (agM 1 an p v).1.c := by
  have HK : Hid _ := hk
  have HP : Hid _ := hP
  clear hk hP
  have N1 := Blk.new' w 65 [.int .i64 f, .int .i64 lo, .int .i64 hi, .string an]
  have bn1 : Below w.heap.size w (w.alloc (.cells #[.int .i64 f, .int .i64 lo, .int .i64 hi, .string an] 65)) := (Below.refl _ _).alloc (Nat.le_refl _) _
  obtain ⟨w1, hw1⟩ : ∃ w1, w1 = w.alloc (.cells #[.int .i64 f, .int .i64 lo, .int .i64 hi, .string an] 65) := ⟨_, rfl⟩
  rw [← hw1] at N1 bn1
  have N2 := Blk.new' w1 59 [.string k, .string v]
  have bn2 : Below w1.heap.size w1 (w1.alloc (.cells #[.string k, .string v] 59)) := (Below.refl _ _).alloc (Nat.le_refl _) _
  obtain ⟨w2, hw2⟩ : ∃ w2, w2 = w1.alloc (.cells #[.string k, .string v] 59) := ⟨_, rfl⟩
  rw [← hw2] at N2 bn2
  obtain ⟨rb, hrb⟩ : ∃ g, g = w.heap.size := ⟨_, rfl⟩
  have hz1 : w1.heap.size = w.heap.size + 1 := by rw [hw1]; simp
  obtain ⟨pb, hpb⟩ : ∃ g, g = w.heap.size + 1 := ⟨_, rfl⟩
  rw [hz1, ← hpb] at N2
  rw [← hrb] at N1
  clear hz1
  have y0 := ck_at N2 0
  have y1 := ck_at N2 1
  simp only [List.getElem?_cons_zero, List.getElem?_cons_succ] at y0 y1
  have HN0 := tNumber_any v w2
  have hnb := nu_bd v.data.toList
  obtain ⟨n, hn⟩ : ∃ n, n = (nuR v.data.toList).1 := ⟨_, rfl⟩
  obtain ⟨E, hE⟩ : ∃ E, E = (nuR v.data.toList).2 := ⟨_, rfl⟩
  rw [← hn, ← hE] at HN0
  rw [← hn] at hnb
  have HN : Hid _ := HN0
  have HG : Hid (agM 1 an p v = ({ p with tgt := v }, ⟨#[]⟩, false)) := (rfl : agM 1 an p v = ({ p with tgt := v }, ⟨#[]⟩, false))
  rw [HG.out]
  simp only
  have HNB : Hid _ := hnb
  clear HG hn hE HN0 hnb
  have H2 : Hid _ := And.intro (below_then bn1 bn2) (And.intro N2 (And.intro hB (N1.laterB bn2)))
  clear bn1 bn2 N1 N2 hB
  go_enter Tryd.func38, Tryd.ntmps38
  go_upto_region 1 with fail
  rw [← hw1, ← hw2, ← hpb, ← hrb]
  clear hw1 hw2 hrb hpb
  go_wp2_with fail
  refine (Calls.mono HN.out) ?_
  rintro e w3 ⟨rfl, b3⟩
  clear HN y0 y1
  have P3 := H2.out.2.1.laterB b3
  have B3 := H2.out.2.2.1.laterB (below_then H2.out.1 b3)
  have R3 := H2.out.2.2.2.laterB b3
  have T3 : Turned (fun k => k = g) w w3 := (turned_below (below_then H2.out.1 b3)).mono (fun k h => h.elim)
  clear b3 H2
  have y0 := ck_at P3 0
  have y1 := ck_at P3 1
  simp only [List.getElem?_cons_zero, List.getElem?_cons_succ] at y0 y1
  go_upto_region 5 with fail
  have E0 : Hid _ := (HK.out 0 _ rfl)
  go_upto_region 7 with (refine wpList_value rfl (exec_eqS rfl rfl rfl (b := false) E0.out) ?_)
  clear E0
  have E1 : Hid _ := (HK.out 1 _ rfl)
  clear HK
  unfold Pm18.c at B3
  have z0 := ck_at B3 0
  have z1 := ck_at B3 1
  have z2 := ck_at B3 2
  have z3 := ck_at B3 3
  have z4 := ck_at B3 4
  have z5 := ck_at B3 5
  have z6 := ck_at B3 6
  have z7 := ck_at B3 7
  have z8 := ck_at B3 8
  have z9 := ck_at B3 9
  have z10 := ck_at B3 10
  simp only [List.getElem?_cons_zero, List.getElem?_cons_succ] at z0 z1 z2 z3 z4 z5 z6 z7 z8 z9 z10
  have fz := ck_fz B3 10
  have S4 := B3.set 10 (.string v)
  simp only [List.set_cons_zero, List.set_cons_succ] at S4
  have T4 := T3.trans ((turned_set w3 g 10 (.string v)).mono (fun k h => .inl h))
  have F : Hid _ := And.intro T4 S4
  clear S4 T4 T3 B3 P3 R3
  go_wp2_with (refine wpList_value rfl (exec_eqS rfl rfl rfl (b := true) E1.out) ?_)
  refine bodyPost_ret (v := .tuple #[.string ⟨#[]⟩, .bool false]) (by first | rfl | simp [results, Tryd.results38, go_sem]) rfl ?_
  exact ⟨rfl, F.out.1, F.out.2⟩
set_option maxHeartbeats 8000000 in
theorem tAg_2 (g : Nat) (f lo hi : Int) (an : ByteArray) (p : Pm18) (k v : ByteArray) (w : World) (hk : KF k 2) (hB : Blk w g 50 p.c) (hP : ∀ X, Turned (fun k => k = g) w X → PowT X) (hs : v.size ≤ 9223372036854775807) : Calls Tryd.prog 38 #[.pointer (some ⟨g, 0, none⟩), .agg #[.int .i64 f, .int .i64 lo, .int .i64 hi, .string an], .agg #[.string k, .string v]] w fun e w' => e = .returned (.tuple #[.string (agM 2 an p v).2.1, .bool (agM 2 an p v).2.2]) ∧ Turned (fun k => k = g) w w' ∧ Blk w' g 50 (agM 2 an p v).1.c := by
  have HK : Hid _ := hk
  have HP : Hid _ := hP
  clear hk hP
  have N1 := Blk.new' w 65 [.int .i64 f, .int .i64 lo, .int .i64 hi, .string an]
  have bn1 : Below w.heap.size w (w.alloc (.cells #[.int .i64 f, .int .i64 lo, .int .i64 hi, .string an] 65)) := (Below.refl _ _).alloc (Nat.le_refl _) _
  obtain ⟨w1, hw1⟩ : ∃ w1, w1 = w.alloc (.cells #[.int .i64 f, .int .i64 lo, .int .i64 hi, .string an] 65) := ⟨_, rfl⟩
  rw [← hw1] at N1 bn1
  have N2 := Blk.new' w1 59 [.string k, .string v]
  have bn2 : Below w1.heap.size w1 (w1.alloc (.cells #[.string k, .string v] 59)) := (Below.refl _ _).alloc (Nat.le_refl _) _
  obtain ⟨w2, hw2⟩ : ∃ w2, w2 = w1.alloc (.cells #[.string k, .string v] 59) := ⟨_, rfl⟩
  rw [← hw2] at N2 bn2
  obtain ⟨rb, hrb⟩ : ∃ g, g = w.heap.size := ⟨_, rfl⟩
  have hz1 : w1.heap.size = w.heap.size + 1 := by rw [hw1]; simp
  obtain ⟨pb, hpb⟩ : ∃ g, g = w.heap.size + 1 := ⟨_, rfl⟩
  rw [hz1, ← hpb] at N2
  rw [← hrb] at N1
  clear hz1
  have y0 := ck_at N2 0
  have y1 := ck_at N2 1
  simp only [List.getElem?_cons_zero, List.getElem?_cons_succ] at y0 y1
  have HN0 := tNumber_any v w2
  have hnb := nu_bd v.data.toList
  obtain ⟨n, hn⟩ : ∃ n, n = (nuR v.data.toList).1 := ⟨_, rfl⟩
  obtain ⟨E, hE⟩ : ∃ E, E = (nuR v.data.toList).2 := ⟨_, rfl⟩
  rw [← hn, ← hE] at HN0
  rw [← hn] at hnb
  have HN : Hid _ := HN0
  have HG : Hid (agM 2 an p v = ({ p with di := v.toList == discS.toList }, ⟨#[]⟩, false)) := (rfl : agM 2 an p v = ({ p with di := v.toList == discS.toList }, ⟨#[]⟩, false))
  rw [HG.out]
  simp only
  have HNB : Hid _ := hnb
  clear HG hn hE HN0 hnb
  obtain ⟨b2, h2⟩ : ∃ b, (v.toList == discS.toList) = b := ⟨_, rfl⟩
  rw [h2]
  have EV : Hid _ := h2
  clear h2
  have H2 : Hid _ := And.intro (below_then bn1 bn2) (And.intro N2 (And.intro hB (N1.laterB bn2)))
  clear bn1 bn2 N1 N2 hB
  go_enter Tryd.func38, Tryd.ntmps38
  go_upto_region 1 with fail
  rw [← hw1, ← hw2, ← hpb, ← hrb]
  clear hw1 hw2 hrb hpb
  go_wp2_with fail
  refine (Calls.mono HN.out) ?_
  rintro e w3 ⟨rfl, b3⟩
  clear HN y0 y1
  have P3 := H2.out.2.1.laterB b3
  have B3 := H2.out.2.2.1.laterB (below_then H2.out.1 b3)
  have R3 := H2.out.2.2.2.laterB b3
  have T3 : Turned (fun k => k = g) w w3 := (turned_below (below_then H2.out.1 b3)).mono (fun k h => h.elim)
  clear b3 H2
  have y0 := ck_at P3 0
  have y1 := ck_at P3 1
  simp only [List.getElem?_cons_zero, List.getElem?_cons_succ] at y0 y1
  go_upto_region 5 with fail
  have E0 : Hid _ := (HK.out 0 _ rfl)
  go_upto_region 7 with (refine wpList_value rfl (exec_eqS rfl rfl rfl (b := false) E0.out) ?_)
  clear E0
  have E1 : Hid _ := (HK.out 1 _ rfl)
  go_upto_region 9 with (refine wpList_value rfl (exec_eqS rfl rfl rfl (b := false) E1.out) ?_)
  clear E1
  have E2 : Hid _ := (HK.out 2 _ rfl)
  clear HK
  unfold Pm18.c at B3
  have z0 := ck_at B3 0
  have z1 := ck_at B3 1
  have z2 := ck_at B3 2
  have z3 := ck_at B3 3
  have z4 := ck_at B3 4
  have z5 := ck_at B3 5
  have z6 := ck_at B3 6
  have z7 := ck_at B3 7
  have z8 := ck_at B3 8
  have z9 := ck_at B3 9
  have z10 := ck_at B3 10
  simp only [List.getElem?_cons_zero, List.getElem?_cons_succ] at z0 z1 z2 z3 z4 z5 z6 z7 z8 z9 z10
  have fz := ck_fz B3 8
  have S4 := B3.set 8 (.bool b2)
  simp only [List.set_cons_zero, List.set_cons_succ] at S4
  have T4 := T3.trans ((turned_set w3 g 8 (.bool b2)).mono (fun k h => .inl h))
  have F : Hid _ := And.intro T4 S4
  clear S4 T4 T3 B3 P3 R3
  go_wp2_with (first | (refine wpList_value rfl (exec_eqS rfl rfl rfl (b := true) E2.out) ?_) | (refine wpList_value rfl (exec_eqS rfl rfl rfl EV.out) ?_))
  refine bodyPost_ret (v := .tuple #[.string ⟨#[]⟩, .bool false]) (by first | rfl | simp [results, Tryd.results38, go_sem]) rfl ?_
  exact ⟨rfl, F.out.1, F.out.2⟩
set_option maxHeartbeats 8000000 in
theorem tAg_3 (g : Nat) (f lo hi : Int) (an : ByteArray) (p : Pm18) (k v : ByteArray) (w : World) (hk : KF k 3) (hB : Blk w g 50 p.c) (hP : ∀ X, Turned (fun k => k = g) w X → PowT X) (hs : v.size ≤ 9223372036854775807) : Calls Tryd.prog 38 #[.pointer (some ⟨g, 0, none⟩), .agg #[.int .i64 f, .int .i64 lo, .int .i64 hi, .string an], .agg #[.string k, .string v]] w fun e w' => e = .returned (.tuple #[.string (agM 3 an p v).2.1, .bool (agM 3 an p v).2.2]) ∧ Turned (fun k => k = g) w w' ∧ Blk w' g 50 (agM 3 an p v).1.c := by
  have HK : Hid _ := hk
  have HP : Hid _ := hP
  clear hk hP
  have N1 := Blk.new' w 65 [.int .i64 f, .int .i64 lo, .int .i64 hi, .string an]
  have bn1 : Below w.heap.size w (w.alloc (.cells #[.int .i64 f, .int .i64 lo, .int .i64 hi, .string an] 65)) := (Below.refl _ _).alloc (Nat.le_refl _) _
  obtain ⟨w1, hw1⟩ : ∃ w1, w1 = w.alloc (.cells #[.int .i64 f, .int .i64 lo, .int .i64 hi, .string an] 65) := ⟨_, rfl⟩
  rw [← hw1] at N1 bn1
  have N2 := Blk.new' w1 59 [.string k, .string v]
  have bn2 : Below w1.heap.size w1 (w1.alloc (.cells #[.string k, .string v] 59)) := (Below.refl _ _).alloc (Nat.le_refl _) _
  obtain ⟨w2, hw2⟩ : ∃ w2, w2 = w1.alloc (.cells #[.string k, .string v] 59) := ⟨_, rfl⟩
  rw [← hw2] at N2 bn2
  obtain ⟨rb, hrb⟩ : ∃ g, g = w.heap.size := ⟨_, rfl⟩
  have hz1 : w1.heap.size = w.heap.size + 1 := by rw [hw1]; simp
  obtain ⟨pb, hpb⟩ : ∃ g, g = w.heap.size + 1 := ⟨_, rfl⟩
  rw [hz1, ← hpb] at N2
  rw [← hrb] at N1
  clear hz1
  have y0 := ck_at N2 0
  have y1 := ck_at N2 1
  simp only [List.getElem?_cons_zero, List.getElem?_cons_succ] at y0 y1
  have HN0 := tNumber_any v w2
  have hnb := nu_bd v.data.toList
  obtain ⟨n, hn⟩ : ∃ n, n = (nuR v.data.toList).1 := ⟨_, rfl⟩
  obtain ⟨E, hE⟩ : ∃ E, E = (nuR v.data.toList).2 := ⟨_, rfl⟩
  rw [← hn, ← hE] at HN0
  rw [← hn] at hnb
  have HN : Hid _ := HN0
  have HG : Hid (agM 3 an p v = (p, ⟨#[]⟩, false)) := (rfl : agM 3 an p v = (p, ⟨#[]⟩, false))
  rw [HG.out]
  simp only
  have HNB : Hid _ := hnb
  clear HG hn hE HN0 hnb
  have H2 : Hid _ := And.intro (below_then bn1 bn2) (And.intro N2 (And.intro hB (N1.laterB bn2)))
  clear bn1 bn2 N1 N2 hB
  go_enter Tryd.func38, Tryd.ntmps38
  go_upto_region 1 with fail
  rw [← hw1, ← hw2, ← hpb, ← hrb]
  clear hw1 hw2 hrb hpb
  go_wp2_with fail
  refine (Calls.mono HN.out) ?_
  rintro e w3 ⟨rfl, b3⟩
  clear HN y0 y1
  have P3 := H2.out.2.1.laterB b3
  have B3 := H2.out.2.2.1.laterB (below_then H2.out.1 b3)
  have R3 := H2.out.2.2.2.laterB b3
  have T3 : Turned (fun k => k = g) w w3 := (turned_below (below_then H2.out.1 b3)).mono (fun k h => h.elim)
  clear b3 H2
  have y0 := ck_at P3 0
  have y1 := ck_at P3 1
  simp only [List.getElem?_cons_zero, List.getElem?_cons_succ] at y0 y1
  go_upto_region 5 with fail
  have E0 : Hid _ := (HK.out 0 _ rfl)
  go_upto_region 7 with (refine wpList_value rfl (exec_eqS rfl rfl rfl (b := false) E0.out) ?_)
  clear E0
  have E1 : Hid _ := (HK.out 1 _ rfl)
  go_upto_region 9 with (refine wpList_value rfl (exec_eqS rfl rfl rfl (b := false) E1.out) ?_)
  clear E1
  have E2 : Hid _ := (HK.out 2 _ rfl)
  go_upto_region 11 with (refine wpList_value rfl (exec_eqS rfl rfl rfl (b := false) E2.out) ?_)
  clear E2
  have E3 : Hid _ := (HK.out 3 _ rfl)
  clear HK
  have F : Hid _ := And.intro T3 B3
  clear T3 B3 P3 R3
  go_wp2_with (refine wpList_value rfl (exec_eqS rfl rfl rfl (b := true) E3.out) ?_)
  refine bodyPost_ret (v := .tuple #[.string ⟨#[]⟩, .bool false]) (by first | rfl | simp [results, Tryd.results38, go_sem]) rfl ?_
  exact ⟨rfl, F.out.1, F.out.2⟩
set_option maxHeartbeats 8000000 in
theorem tAg_4 (g : Nat) (f lo hi : Int) (an : ByteArray) (p : Pm18) (k v : ByteArray) (w : World) (hk : KF k 4) (hB : Blk w g 50 p.c) (hP : ∀ X, Turned (fun k => k = g) w X → PowT X) (hs : v.size ≤ 9223372036854775807) : Calls Tryd.prog 38 #[.pointer (some ⟨g, 0, none⟩), .agg #[.int .i64 f, .int .i64 lo, .int .i64 hi, .string an], .agg #[.string k, .string v]] w fun e w' => e = .returned (.tuple #[.string (agM 4 an p v).2.1, .bool (agM 4 an p v).2.2]) ∧ Turned (fun k => k = g) w w' ∧ Blk w' g 50 (agM 4 an p v).1.c := by
  have HK : Hid _ := hk
  have HP : Hid _ := hP
  clear hk hP
  have N1 := Blk.new' w 65 [.int .i64 f, .int .i64 lo, .int .i64 hi, .string an]
  have bn1 : Below w.heap.size w (w.alloc (.cells #[.int .i64 f, .int .i64 lo, .int .i64 hi, .string an] 65)) := (Below.refl _ _).alloc (Nat.le_refl _) _
  obtain ⟨w1, hw1⟩ : ∃ w1, w1 = w.alloc (.cells #[.int .i64 f, .int .i64 lo, .int .i64 hi, .string an] 65) := ⟨_, rfl⟩
  rw [← hw1] at N1 bn1
  have N2 := Blk.new' w1 59 [.string k, .string v]
  have bn2 : Below w1.heap.size w1 (w1.alloc (.cells #[.string k, .string v] 59)) := (Below.refl _ _).alloc (Nat.le_refl _) _
  obtain ⟨w2, hw2⟩ : ∃ w2, w2 = w1.alloc (.cells #[.string k, .string v] 59) := ⟨_, rfl⟩
  rw [← hw2] at N2 bn2
  obtain ⟨rb, hrb⟩ : ∃ g, g = w.heap.size := ⟨_, rfl⟩
  have hz1 : w1.heap.size = w.heap.size + 1 := by rw [hw1]; simp
  obtain ⟨pb, hpb⟩ : ∃ g, g = w.heap.size + 1 := ⟨_, rfl⟩
  rw [hz1, ← hpb] at N2
  rw [← hrb] at N1
  clear hz1
  have y0 := ck_at N2 0
  have y1 := ck_at N2 1
  simp only [List.getElem?_cons_zero, List.getElem?_cons_succ] at y0 y1
  have HN0 := tNumber_any v w2
  have hnb := nu_bd v.data.toList
  obtain ⟨n, hn⟩ : ∃ n, n = (nuR v.data.toList).1 := ⟨_, rfl⟩
  obtain ⟨E, hE⟩ : ∃ E, E = (nuR v.data.toList).2 := ⟨_, rfl⟩
  rw [← hn, ← hE] at HN0
  rw [← hn] at hnb
  have HN : Hid _ := HN0
  have HG : Hid (agM 4 an p v = (p, firstM [noneS] v, true)) := (rfl : agM 4 an p v = (p, firstM [noneS] v, true))
  rw [HG.out]
  simp only
  have HNB : Hid _ := hnb
  clear HG hn hE HN0 hnb
  obtain ⟨d, hd⟩ : ∃ d, d = firstM [noneS] v := ⟨_, rfl⟩
  rw [← hd]
  have HDd : Hid _ := hd
  clear hd
  have H2 : Hid _ := And.intro (below_then bn1 bn2) (And.intro N2 (And.intro hB (N1.laterB bn2)))
  clear bn1 bn2 N1 N2 hB
  go_enter Tryd.func38, Tryd.ntmps38
  go_upto_region 1 with fail
  rw [← hw1, ← hw2, ← hpb, ← hrb]
  clear hw1 hw2 hrb hpb
  go_wp2_with fail
  refine (Calls.mono HN.out) ?_
  rintro e w3 ⟨rfl, b3⟩
  clear HN y0 y1
  have P3 := H2.out.2.1.laterB b3
  have B3 := H2.out.2.2.1.laterB (below_then H2.out.1 b3)
  have R3 := H2.out.2.2.2.laterB b3
  have T3 : Turned (fun k => k = g) w w3 := (turned_below (below_then H2.out.1 b3)).mono (fun k h => h.elim)
  clear b3 H2
  have y0 := ck_at P3 0
  have y1 := ck_at P3 1
  simp only [List.getElem?_cons_zero, List.getElem?_cons_succ] at y0 y1
  go_upto_region 5 with fail
  have E0 : Hid _ := (HK.out 0 _ rfl)
  go_upto_region 7 with (refine wpList_value rfl (exec_eqS rfl rfl rfl (b := false) E0.out) ?_)
  clear E0
  have E1 : Hid _ := (HK.out 1 _ rfl)
  go_upto_region 9 with (refine wpList_value rfl (exec_eqS rfl rfl rfl (b := false) E1.out) ?_)
  clear E1
  have E2 : Hid _ := (HK.out 2 _ rfl)
  go_upto_region 11 with (refine wpList_value rfl (exec_eqS rfl rfl rfl (b := false) E2.out) ?_)
  clear E2
  have E3 : Hid _ := (HK.out 3 _ rfl)
  go_upto_region 12 with (refine wpList_value rfl (exec_eqS rfl rfl rfl (b := false) E3.out) ?_)
  clear E3
  have E4 : Hid _ := (HK.out 7 _ rfl)
  go_upto_region 14 with (refine wpList_value rfl (exec_eqS rfl rfl rfl (b := false) E4.out) ?_)
  clear E4
  have E5 : Hid _ := (HK.out 4 _ rfl)
  clear HK
  have hbs := bs_one w3
  have bn : Below w3.heap.size w3 (w3.alloc (.cells #[.string noneS] 9)) := (Below.refl _ _).alloc (Nat.le_refl _) _
  have N5 := Blk.new' w3 9 [.string noneS]
  obtain ⟨w4, hw4⟩ : ∃ w4, w4 = w3.alloc (.cells #[.string noneS] 9) := ⟨_, rfl⟩
  rw [← hw4] at bn N5 hbs
  have hcc : ∀ i, i < ([noneS] : List ByteArray).length → w4.cell? ⟨w3.heap.size, 0 + i, none⟩ = some (.string (([noneS] : List ByteArray).getD i ByteArray.empty)) := by
    intro i hi
    obtain rfl : i = 0 := by simp at hi; omega
    exact ck_at N5 0
  have HI0 := tFirst_any v [noneS] w3.heap.size 1 w4 hs (by simp) hcc
  rw [← HDd.out] at HI0
  have HI : Hid _ := HI0
  have F : Hid _ := And.intro (T3.trans ((turned_below bn).mono (fun k h => h.elim))) (B3.laterB bn)
  clear hcc HI0 hs T3 B3 P3 R3 bn N5 hbs
  go_wp2_with (refine wpList_value rfl (exec_eqS rfl rfl rfl (b := true) E5.out) ?_)
  rw [← hw4]
  clear hw4
  refine (Calls.mono HI.out) ?_
  rintro e w5 ⟨rfl, b5⟩
  clear HI
  have F2 : Hid _ := And.intro (F.out.1.trans ((turned_below b5).mono (fun k h => h.elim))) (F.out.2.laterB b5)
  clear b5 F y0 y1
  go_wp2
  refine bodyPost_ret (v := .tuple #[.string d, .bool true]) (by first | rfl | simp [results, Tryd.results38, go_sem]) rfl ?_
  exact ⟨rfl, F2.out.1, F2.out.2⟩
set_option maxHeartbeats 8000000 in
theorem tAg_5 (g : Nat) (f lo hi : Int) (an : ByteArray) (p : Pm18) (k v : ByteArray) (w : World) (hk : KF k 5) (hB : Blk w g 50 p.c) (hP : ∀ X, Turned (fun k => k = g) w X → PowT X) (hs : v.size ≤ 9223372036854775807) : Calls Tryd.prog 38 #[.pointer (some ⟨g, 0, none⟩), .agg #[.int .i64 f, .int .i64 lo, .int .i64 hi, .string an], .agg #[.string k, .string v]] w fun e w' => e = .returned (.tuple #[.string (agM 5 an p v).2.1, .bool (agM 5 an p v).2.2]) ∧ Turned (fun k => k = g) w w' ∧ Blk w' g 50 (agM 5 an p v).1.c := by
  have HK : Hid _ := hk
  have HP : Hid _ := hP
  clear hk hP
  have N1 := Blk.new' w 65 [.int .i64 f, .int .i64 lo, .int .i64 hi, .string an]
  have bn1 : Below w.heap.size w (w.alloc (.cells #[.int .i64 f, .int .i64 lo, .int .i64 hi, .string an] 65)) := (Below.refl _ _).alloc (Nat.le_refl _) _
  obtain ⟨w1, hw1⟩ : ∃ w1, w1 = w.alloc (.cells #[.int .i64 f, .int .i64 lo, .int .i64 hi, .string an] 65) := ⟨_, rfl⟩
  rw [← hw1] at N1 bn1
  have N2 := Blk.new' w1 59 [.string k, .string v]
  have bn2 : Below w1.heap.size w1 (w1.alloc (.cells #[.string k, .string v] 59)) := (Below.refl _ _).alloc (Nat.le_refl _) _
  obtain ⟨w2, hw2⟩ : ∃ w2, w2 = w1.alloc (.cells #[.string k, .string v] 59) := ⟨_, rfl⟩
  rw [← hw2] at N2 bn2
  obtain ⟨rb, hrb⟩ : ∃ g, g = w.heap.size := ⟨_, rfl⟩
  have hz1 : w1.heap.size = w.heap.size + 1 := by rw [hw1]; simp
  obtain ⟨pb, hpb⟩ : ∃ g, g = w.heap.size + 1 := ⟨_, rfl⟩
  rw [hz1, ← hpb] at N2
  rw [← hrb] at N1
  clear hz1
  have y0 := ck_at N2 0
  have y1 := ck_at N2 1
  simp only [List.getElem?_cons_zero, List.getElem?_cons_succ] at y0 y1
  have HN0 := tNumber_any v w2
  have hnb := nu_bd v.data.toList
  obtain ⟨n, hn⟩ : ∃ n, n = (nuR v.data.toList).1 := ⟨_, rfl⟩
  obtain ⟨E, hE⟩ : ∃ E, E = (nuR v.data.toList).2 := ⟨_, rfl⟩
  rw [← hn, ← hE] at HN0
  rw [← hn] at hnb
  have HN : Hid _ := HN0
  have HG : Hid (agM 5 an p v = (if (firstM [noneS, crcS] v).toList == rejS.toList then p else { p with hs := (firstM [noneS, crcS] v).toList == crcS.toList }, firstM [noneS, crcS] v, true)) := (rfl : agM 5 an p v = (if (firstM [noneS, crcS] v).toList == rejS.toList then p else { p with hs := (firstM [noneS, crcS] v).toList == crcS.toList }, firstM [noneS, crcS] v, true))
  rw [HG.out]
  simp only
  have HNB : Hid _ := hnb
  clear HG hn hE HN0 hnb
  obtain ⟨d, hd⟩ : ∃ d, d = firstM [noneS, crcS] v := ⟨_, rfl⟩
  rw [← hd]
  have HDd : Hid _ := hd
  clear hd
  obtain ⟨pp, hpp⟩ : ∃ q : Pm18, q = (if d.toList == rejS.toList then p else { p with hs := d.toList == crcS.toList }) := ⟨_, rfl⟩
  rw [← hpp]
  have HPP : Hid (pp.c = digC p.c 0 d) := (by rw [hpp]; unfold digC; split <;> rfl : pp.c = digC p.c 0 d)
  clear hpp
  have H2 : Hid _ := And.intro (below_then bn1 bn2) (And.intro N2 (And.intro hB (N1.laterB bn2)))
  clear bn1 bn2 N1 N2 hB
  go_enter Tryd.func38, Tryd.ntmps38
  go_upto_region 1 with fail
  rw [← hw1, ← hw2, ← hpb, ← hrb]
  clear hw1 hw2 hrb hpb
  go_wp2_with fail
  refine (Calls.mono HN.out) ?_
  rintro e w3 ⟨rfl, b3⟩
  clear HN y0 y1
  have P3 := H2.out.2.1.laterB b3
  have B3 := H2.out.2.2.1.laterB (below_then H2.out.1 b3)
  have R3 := H2.out.2.2.2.laterB b3
  have T3 : Turned (fun k => k = g) w w3 := (turned_below (below_then H2.out.1 b3)).mono (fun k h => h.elim)
  clear b3 H2
  have y0 := ck_at P3 0
  have y1 := ck_at P3 1
  simp only [List.getElem?_cons_zero, List.getElem?_cons_succ] at y0 y1
  go_upto_region 5 with fail
  have E0 : Hid _ := (HK.out 0 _ rfl)
  go_upto_region 7 with (refine wpList_value rfl (exec_eqS rfl rfl rfl (b := false) E0.out) ?_)
  clear E0
  have E1 : Hid _ := (HK.out 1 _ rfl)
  go_upto_region 9 with (refine wpList_value rfl (exec_eqS rfl rfl rfl (b := false) E1.out) ?_)
  clear E1
  have E2 : Hid _ := (HK.out 2 _ rfl)
  go_upto_region 11 with (refine wpList_value rfl (exec_eqS rfl rfl rfl (b := false) E2.out) ?_)
  clear E2
  have E3 : Hid _ := (HK.out 3 _ rfl)
  go_upto_region 12 with (refine wpList_value rfl (exec_eqS rfl rfl rfl (b := false) E3.out) ?_)
  clear E3
  have E4 : Hid _ := (HK.out 7 _ rfl)
  go_upto_region 14 with (refine wpList_value rfl (exec_eqS rfl rfl rfl (b := false) E4.out) ?_)
  clear E4
  have E5 : Hid _ := (HK.out 4 _ rfl)
  go_upto_region 16 with (refine wpList_value rfl (exec_eqS rfl rfl rfl (b := false) E5.out) ?_)
  clear E5
  have E6 : Hid _ := (HK.out 5 _ rfl)
  clear HK
  have HD0 := tDigest_any g 0 v p.c w3 B3 (by rw [Pm18.len]; decide) hs
  rw [← HDd.out] at HD0
  have HD : Hid _ := HD0
  have F : Hid _ := T3
  clear HD0 hs T3 B3 P3 R3
  go_wp2_with (refine wpList_value rfl (exec_eqS rfl rfl rfl (b := true) E6.out) ?_)
  refine (Calls.mono HD.out) ?_
  rintro e w5 ⟨rfl, t5, B5⟩
  clear HD
  have F2 : Hid _ := And.intro (F.out.trans (t5.mono (fun k h => .inl h))) B5
  clear t5 B5 F y0 y1
  go_wp2
  refine bodyPost_ret (v := .tuple #[.string d, .bool true]) (by first | rfl | simp [results, Tryd.results38, go_sem]) rfl ?_
  exact ⟨rfl, F2.out.1, by rw [HPP.out]; exact F2.out.2⟩
set_option maxHeartbeats 8000000 in
theorem tAg_6 (g : Nat) (f lo hi : Int) (an : ByteArray) (p : Pm18) (k v : ByteArray) (w : World) (hk : KF k 6) (hB : Blk w g 50 p.c) (hP : ∀ X, Turned (fun k => k = g) w X → PowT X) (hs : v.size ≤ 9223372036854775807) : Calls Tryd.prog 38 #[.pointer (some ⟨g, 0, none⟩), .agg #[.int .i64 f, .int .i64 lo, .int .i64 hi, .string an], .agg #[.string k, .string v]] w fun e w' => e = .returned (.tuple #[.string (agM 6 an p v).2.1, .bool (agM 6 an p v).2.2]) ∧ Turned (fun k => k = g) w w' ∧ Blk w' g 50 (agM 6 an p v).1.c := by
  have HK : Hid _ := hk
  have HP : Hid _ := hP
  clear hk hP
  have N1 := Blk.new' w 65 [.int .i64 f, .int .i64 lo, .int .i64 hi, .string an]
  have bn1 : Below w.heap.size w (w.alloc (.cells #[.int .i64 f, .int .i64 lo, .int .i64 hi, .string an] 65)) := (Below.refl _ _).alloc (Nat.le_refl _) _
  obtain ⟨w1, hw1⟩ : ∃ w1, w1 = w.alloc (.cells #[.int .i64 f, .int .i64 lo, .int .i64 hi, .string an] 65) := ⟨_, rfl⟩
  rw [← hw1] at N1 bn1
  have N2 := Blk.new' w1 59 [.string k, .string v]
  have bn2 : Below w1.heap.size w1 (w1.alloc (.cells #[.string k, .string v] 59)) := (Below.refl _ _).alloc (Nat.le_refl _) _
  obtain ⟨w2, hw2⟩ : ∃ w2, w2 = w1.alloc (.cells #[.string k, .string v] 59) := ⟨_, rfl⟩
  rw [← hw2] at N2 bn2
  obtain ⟨rb, hrb⟩ : ∃ g, g = w.heap.size := ⟨_, rfl⟩
  have hz1 : w1.heap.size = w.heap.size + 1 := by rw [hw1]; simp
  obtain ⟨pb, hpb⟩ : ∃ g, g = w.heap.size + 1 := ⟨_, rfl⟩
  rw [hz1, ← hpb] at N2
  rw [← hrb] at N1
  clear hz1
  have y0 := ck_at N2 0
  have y1 := ck_at N2 1
  simp only [List.getElem?_cons_zero, List.getElem?_cons_succ] at y0 y1
  have HN0 := tNumber_any v w2
  have hnb := nu_bd v.data.toList
  obtain ⟨n, hn⟩ : ∃ n, n = (nuR v.data.toList).1 := ⟨_, rfl⟩
  obtain ⟨E, hE⟩ : ∃ E, E = (nuR v.data.toList).2 := ⟨_, rfl⟩
  rw [← hn, ← hE] at HN0
  rw [← hn] at hnb
  have HN : Hid _ := HN0
  have HG : Hid (agM 6 an p v = (if (firstM [noneS, crcS] v).toList == rejS.toList then p else { p with ds := (firstM [noneS, crcS] v).toList == crcS.toList }, firstM [noneS, crcS] v, true)) := (rfl : agM 6 an p v = (if (firstM [noneS, crcS] v).toList == rejS.toList then p else { p with ds := (firstM [noneS, crcS] v).toList == crcS.toList }, firstM [noneS, crcS] v, true))
  rw [HG.out]
  simp only
  have HNB : Hid _ := hnb
  clear HG hn hE HN0 hnb
  obtain ⟨d, hd⟩ : ∃ d, d = firstM [noneS, crcS] v := ⟨_, rfl⟩
  rw [← hd]
  have HDd : Hid _ := hd
  clear hd
  obtain ⟨pp, hpp⟩ : ∃ q : Pm18, q = (if d.toList == rejS.toList then p else { p with ds := d.toList == crcS.toList }) := ⟨_, rfl⟩
  rw [← hpp]
  have HPP : Hid (pp.c = digC p.c 1 d) := (by rw [hpp]; unfold digC; split <;> rfl : pp.c = digC p.c 1 d)
  clear hpp
  have H2 : Hid _ := And.intro (below_then bn1 bn2) (And.intro N2 (And.intro hB (N1.laterB bn2)))
  clear bn1 bn2 N1 N2 hB
  go_enter Tryd.func38, Tryd.ntmps38
  go_upto_region 1 with fail
  rw [← hw1, ← hw2, ← hpb, ← hrb]
  clear hw1 hw2 hrb hpb
  go_wp2_with fail
  refine (Calls.mono HN.out) ?_
  rintro e w3 ⟨rfl, b3⟩
  clear HN y0 y1
  have P3 := H2.out.2.1.laterB b3
  have B3 := H2.out.2.2.1.laterB (below_then H2.out.1 b3)
  have R3 := H2.out.2.2.2.laterB b3
  have T3 : Turned (fun k => k = g) w w3 := (turned_below (below_then H2.out.1 b3)).mono (fun k h => h.elim)
  clear b3 H2
  have y0 := ck_at P3 0
  have y1 := ck_at P3 1
  simp only [List.getElem?_cons_zero, List.getElem?_cons_succ] at y0 y1
  go_upto_region 5 with fail
  have E0 : Hid _ := (HK.out 0 _ rfl)
  go_upto_region 7 with (refine wpList_value rfl (exec_eqS rfl rfl rfl (b := false) E0.out) ?_)
  clear E0
  have E1 : Hid _ := (HK.out 1 _ rfl)
  go_upto_region 9 with (refine wpList_value rfl (exec_eqS rfl rfl rfl (b := false) E1.out) ?_)
  clear E1
  have E2 : Hid _ := (HK.out 2 _ rfl)
  go_upto_region 11 with (refine wpList_value rfl (exec_eqS rfl rfl rfl (b := false) E2.out) ?_)
  clear E2
  have E3 : Hid _ := (HK.out 3 _ rfl)
  go_upto_region 12 with (refine wpList_value rfl (exec_eqS rfl rfl rfl (b := false) E3.out) ?_)
  clear E3
  have E4 : Hid _ := (HK.out 7 _ rfl)
  go_upto_region 14 with (refine wpList_value rfl (exec_eqS rfl rfl rfl (b := false) E4.out) ?_)
  clear E4
  have E5 : Hid _ := (HK.out 4 _ rfl)
  go_upto_region 16 with (refine wpList_value rfl (exec_eqS rfl rfl rfl (b := false) E5.out) ?_)
  clear E5
  have E6 : Hid _ := (HK.out 5 _ rfl)
  go_upto_region 18 with (refine wpList_value rfl (exec_eqS rfl rfl rfl (b := false) E6.out) ?_)
  clear E6
  have E7 : Hid _ := (HK.out 6 _ rfl)
  clear HK
  have HD0 := tDigest_any g 1 v p.c w3 B3 (by rw [Pm18.len]; decide) hs
  rw [← HDd.out] at HD0
  have HD : Hid _ := HD0
  have F : Hid _ := T3
  clear HD0 hs T3 B3 P3 R3
  go_wp2_with (refine wpList_value rfl (exec_eqS rfl rfl rfl (b := true) E7.out) ?_)
  refine (Calls.mono HD.out) ?_
  rintro e w5 ⟨rfl, t5, B5⟩
  clear HD
  have F2 : Hid _ := And.intro (F.out.trans (t5.mono (fun k h => .inl h))) B5
  clear t5 B5 F y0 y1
  go_wp2
  refine bodyPost_ret (v := .tuple #[.string d, .bool true]) (by first | rfl | simp [results, Tryd.results38, go_sem]) rfl ?_
  exact ⟨rfl, F2.out.1, by rw [HPP.out]; exact F2.out.2⟩
set_option maxHeartbeats 8000000 in
theorem tAg_7 (g : Nat) (f lo hi : Int) (an : ByteArray) (p : Pm18) (k v : ByteArray) (w : World) (hk : KF k 7) (hB : Blk w g 50 p.c) (hP : ∀ X, Turned (fun k => k = g) w X → PowT X) (hs : v.size ≤ 9223372036854775807) : Calls Tryd.prog 38 #[.pointer (some ⟨g, 0, none⟩), .agg #[.int .i64 f, .int .i64 lo, .int .i64 hi, .string an], .agg #[.string k, .string v]] w fun e w' => e = .returned (.tuple #[.string (agM 7 an p v).2.1, .bool (agM 7 an p v).2.2]) ∧ Turned (fun k => k = g) w w' ∧ Blk w' g 50 (agM 7 an p v).1.c := by
  have HK : Hid _ := hk
  have HP : Hid _ := hP
  clear hk hP
  have N1 := Blk.new' w 65 [.int .i64 f, .int .i64 lo, .int .i64 hi, .string an]
  have bn1 : Below w.heap.size w (w.alloc (.cells #[.int .i64 f, .int .i64 lo, .int .i64 hi, .string an] 65)) := (Below.refl _ _).alloc (Nat.le_refl _) _
  obtain ⟨w1, hw1⟩ : ∃ w1, w1 = w.alloc (.cells #[.int .i64 f, .int .i64 lo, .int .i64 hi, .string an] 65) := ⟨_, rfl⟩
  rw [← hw1] at N1 bn1
  have N2 := Blk.new' w1 59 [.string k, .string v]
  have bn2 : Below w1.heap.size w1 (w1.alloc (.cells #[.string k, .string v] 59)) := (Below.refl _ _).alloc (Nat.le_refl _) _
  obtain ⟨w2, hw2⟩ : ∃ w2, w2 = w1.alloc (.cells #[.string k, .string v] 59) := ⟨_, rfl⟩
  rw [← hw2] at N2 bn2
  obtain ⟨rb, hrb⟩ : ∃ g, g = w.heap.size := ⟨_, rfl⟩
  have hz1 : w1.heap.size = w.heap.size + 1 := by rw [hw1]; simp
  obtain ⟨pb, hpb⟩ : ∃ g, g = w.heap.size + 1 := ⟨_, rfl⟩
  rw [hz1, ← hpb] at N2
  rw [← hrb] at N1
  clear hz1
  have y0 := ck_at N2 0
  have y1 := ck_at N2 1
  simp only [List.getElem?_cons_zero, List.getElem?_cons_succ] at y0 y1
  have HN0 := tNumber_any v w2
  have hnb := nu_bd v.data.toList
  obtain ⟨n, hn⟩ : ∃ n, n = (nuR v.data.toList).1 := ⟨_, rfl⟩
  obtain ⟨E, hE⟩ : ∃ E, E = (nuR v.data.toList).2 := ⟨_, rfl⟩
  rw [← hn, ← hE] at HN0
  rw [← hn] at hnb
  have HN : Hid _ := HN0
  have HG : Hid (agM 7 an p v = ({ p with mo := min n 65536 }, ⟨#[]⟩, false)) := (by unfold agM; simp only [← hn] : agM 7 an p v = ({ p with mo := min n 65536 }, ⟨#[]⟩, false))
  rw [HG.out]
  simp only
  have HNB : Hid _ := hnb
  clear HG hn hE HN0 hnb
  have H2 : Hid _ := And.intro (below_then bn1 bn2) (And.intro N2 (And.intro hB (N1.laterB bn2)))
  clear bn1 bn2 N1 N2 hB
  go_enter Tryd.func38, Tryd.ntmps38
  go_upto_region 1 with fail
  rw [← hw1, ← hw2, ← hpb, ← hrb]
  clear hw1 hw2 hrb hpb
  go_wp2_with fail
  refine (Calls.mono HN.out) ?_
  rintro e w3 ⟨rfl, b3⟩
  clear HN y0 y1
  have P3 := H2.out.2.1.laterB b3
  have B3 := H2.out.2.2.1.laterB (below_then H2.out.1 b3)
  have R3 := H2.out.2.2.2.laterB b3
  have T3 : Turned (fun k => k = g) w w3 := (turned_below (below_then H2.out.1 b3)).mono (fun k h => h.elim)
  clear b3 H2
  have y0 := ck_at P3 0
  have y1 := ck_at P3 1
  simp only [List.getElem?_cons_zero, List.getElem?_cons_succ] at y0 y1
  go_upto_region 5 with fail
  have E0 : Hid _ := (HK.out 0 _ rfl)
  go_upto_region 7 with (refine wpList_value rfl (exec_eqS rfl rfl rfl (b := false) E0.out) ?_)
  clear E0
  have E1 : Hid _ := (HK.out 1 _ rfl)
  go_upto_region 9 with (refine wpList_value rfl (exec_eqS rfl rfl rfl (b := false) E1.out) ?_)
  clear E1
  have E2 : Hid _ := (HK.out 2 _ rfl)
  go_upto_region 11 with (refine wpList_value rfl (exec_eqS rfl rfl rfl (b := false) E2.out) ?_)
  clear E2
  have E3 : Hid _ := (HK.out 3 _ rfl)
  go_upto_region 12 with (refine wpList_value rfl (exec_eqS rfl rfl rfl (b := false) E3.out) ?_)
  clear E3
  have E4 : Hid _ := (HK.out 7 _ rfl)
  clear HK
  unfold Pm18.c at B3
  have z0 := ck_at B3 0
  have z1 := ck_at B3 1
  have z2 := ck_at B3 2
  have z3 := ck_at B3 3
  have z4 := ck_at B3 4
  have z5 := ck_at B3 5
  have z6 := ck_at B3 6
  have z7 := ck_at B3 7
  have z8 := ck_at B3 8
  have z9 := ck_at B3 9
  have z10 := ck_at B3 10
  simp only [List.getElem?_cons_zero, List.getElem?_cons_succ] at z0 z1 z2 z3 z4 z5 z6 z7 z8 z9 z10
  have fz := ck_fz B3 2
  have S4 := B3.set 2 (.int .i64 (min n 65536))
  simp only [List.set_cons_zero, List.set_cons_succ] at S4
  have T4 := T3.trans ((turned_set w3 g 2 (.int .i64 (min n 65536))).mono (fun k h => .inl h))
  have F : Hid _ := And.intro T4 S4
  clear S4 T4 T3 B3 P3 R3
  go_wp2_with (refine wpList_value rfl (exec_eqS rfl rfl rfl (b := true) E4.out) ?_)
  refine bodyPost_ret (v := .tuple #[.string ⟨#[]⟩, .bool false]) (by first | rfl | simp [results, Tryd.results38, go_sem]) rfl ?_
  exact ⟨rfl, F.out.1, F.out.2⟩
set_option maxHeartbeats 8000000 in
theorem tAg_8 (g : Nat) (f lo hi : Int) (an : ByteArray) (p : Pm18) (k v : ByteArray) (w : World) (hk : KF k 8) (hB : Blk w g 50 p.c) (hP : ∀ X, Turned (fun k => k = g) w X → PowT X) (hs : v.size ≤ 9223372036854775807) : Calls Tryd.prog 38 #[.pointer (some ⟨g, 0, none⟩), .agg #[.int .i64 f, .int .i64 lo, .int .i64 hi, .string an], .agg #[.string k, .string v]] w fun e w' => e = .returned (.tuple #[.string (agM 8 an p v).2.1, .bool (agM 8 an p v).2.2]) ∧ Turned (fun k => k = g) w w' ∧ Blk w' g 50 (agM 8 an p v).1.c := by
  have HK : Hid _ := hk
  have HP : Hid _ := hP
  clear hk hP
  have N1 := Blk.new' w 65 [.int .i64 f, .int .i64 lo, .int .i64 hi, .string an]
  have bn1 : Below w.heap.size w (w.alloc (.cells #[.int .i64 f, .int .i64 lo, .int .i64 hi, .string an] 65)) := (Below.refl _ _).alloc (Nat.le_refl _) _
  obtain ⟨w1, hw1⟩ : ∃ w1, w1 = w.alloc (.cells #[.int .i64 f, .int .i64 lo, .int .i64 hi, .string an] 65) := ⟨_, rfl⟩
  rw [← hw1] at N1 bn1
  have N2 := Blk.new' w1 59 [.string k, .string v]
  have bn2 : Below w1.heap.size w1 (w1.alloc (.cells #[.string k, .string v] 59)) := (Below.refl _ _).alloc (Nat.le_refl _) _
  obtain ⟨w2, hw2⟩ : ∃ w2, w2 = w1.alloc (.cells #[.string k, .string v] 59) := ⟨_, rfl⟩
  rw [← hw2] at N2 bn2
  obtain ⟨rb, hrb⟩ : ∃ g, g = w.heap.size := ⟨_, rfl⟩
  have hz1 : w1.heap.size = w.heap.size + 1 := by rw [hw1]; simp
  obtain ⟨pb, hpb⟩ : ∃ g, g = w.heap.size + 1 := ⟨_, rfl⟩
  rw [hz1, ← hpb] at N2
  rw [← hrb] at N1
  clear hz1
  have y0 := ck_at N2 0
  have y1 := ck_at N2 1
  simp only [List.getElem?_cons_zero, List.getElem?_cons_succ] at y0 y1
  have HN0 := tNumber_any v w2
  have hnb := nu_bd v.data.toList
  obtain ⟨n, hn⟩ : ∃ n, n = (nuR v.data.toList).1 := ⟨_, rfl⟩
  obtain ⟨E, hE⟩ : ∃ E, E = (nuR v.data.toList).2 := ⟨_, rfl⟩
  rw [← hn, ← hE] at HN0
  rw [← hn] at hnb
  have HN : Hid _ := HN0
  have HG : Hid (agM 8 an p v = ({ p with bu := min n p.bu }, digS (min n p.bu), true)) := (by unfold agM; simp only [← hn] : agM 8 an p v = ({ p with bu := min n p.bu }, digS (min n p.bu), true))
  rw [HG.out]
  simp only
  have HNB : Hid _ := hnb
  clear HG hn hE HN0 hnb
  obtain ⟨m, hm⟩ : ∃ m, m = min n p.bu := ⟨_, rfl⟩
  rw [← hm]
  have HM : Hid _ := hm
  clear hm
  have H2 : Hid _ := And.intro (below_then bn1 bn2) (And.intro N2 (And.intro hB (N1.laterB bn2)))
  clear bn1 bn2 N1 N2 hB
  go_enter Tryd.func38, Tryd.ntmps38
  go_upto_region 1 with fail
  rw [← hw1, ← hw2, ← hpb, ← hrb]
  clear hw1 hw2 hrb hpb
  go_wp2_with fail
  refine (Calls.mono HN.out) ?_
  rintro e w3 ⟨rfl, b3⟩
  clear HN y0 y1
  have P3 := H2.out.2.1.laterB b3
  have B3 := H2.out.2.2.1.laterB (below_then H2.out.1 b3)
  have R3 := H2.out.2.2.2.laterB b3
  have T3 : Turned (fun k => k = g) w w3 := (turned_below (below_then H2.out.1 b3)).mono (fun k h => h.elim)
  clear b3 H2
  have y0 := ck_at P3 0
  have y1 := ck_at P3 1
  simp only [List.getElem?_cons_zero, List.getElem?_cons_succ] at y0 y1
  go_upto_region 5 with fail
  have E0 : Hid _ := (HK.out 0 _ rfl)
  go_upto_region 7 with (refine wpList_value rfl (exec_eqS rfl rfl rfl (b := false) E0.out) ?_)
  clear E0
  have E1 : Hid _ := (HK.out 1 _ rfl)
  go_upto_region 9 with (refine wpList_value rfl (exec_eqS rfl rfl rfl (b := false) E1.out) ?_)
  clear E1
  have E2 : Hid _ := (HK.out 2 _ rfl)
  go_upto_region 11 with (refine wpList_value rfl (exec_eqS rfl rfl rfl (b := false) E2.out) ?_)
  clear E2
  have E3 : Hid _ := (HK.out 3 _ rfl)
  go_upto_region 12 with (refine wpList_value rfl (exec_eqS rfl rfl rfl (b := false) E3.out) ?_)
  clear E3
  have E4 : Hid _ := (HK.out 7 _ rfl)
  go_upto_region 14 with (refine wpList_value rfl (exec_eqS rfl rfl rfl (b := false) E4.out) ?_)
  clear E4
  have E5 : Hid _ := (HK.out 4 _ rfl)
  go_upto_region 16 with (refine wpList_value rfl (exec_eqS rfl rfl rfl (b := false) E5.out) ?_)
  clear E5
  have E6 : Hid _ := (HK.out 5 _ rfl)
  go_upto_region 18 with (refine wpList_value rfl (exec_eqS rfl rfl rfl (b := false) E6.out) ?_)
  clear E6
  have E7 : Hid _ := (HK.out 6 _ rfl)
  go_upto_region 20 with (refine wpList_value rfl (exec_eqS rfl rfl rfl (b := false) E7.out) ?_)
  clear E7
  have E8 : Hid _ := (HK.out 8 _ rfl)
  clear HK
  unfold Pm18.c at B3
  have z0 := ck_at B3 0
  have z1 := ck_at B3 1
  have z2 := ck_at B3 2
  have z3 := ck_at B3 3
  have z4 := ck_at B3 4
  have z5 := ck_at B3 5
  have z6 := ck_at B3 6
  have z7 := ck_at B3 7
  have z8 := ck_at B3 8
  have z9 := ck_at B3 9
  have z10 := ck_at B3 10
  simp only [List.getElem?_cons_zero, List.getElem?_cons_succ] at z0 z1 z2 z3 z4 z5 z6 z7 z8 z9 z10
  have fz := ck_fz B3 4
  have S4 := B3.set 4 (.int .i64 (min n p.bu))
  simp only [List.set_cons_zero, List.set_cons_succ] at S4
  have T4 := T3.trans ((turned_set w3 g 4 (.int .i64 (min n p.bu))).mono (fun k h => .inl h))
  have F : Hid _ := And.intro T4 S4
  clear S4 T4 T3 B3 P3 R3
  rw [← HM.out] at F
  obtain ⟨w4, hw4⟩ : ∃ y, y = w3.setCell ⟨g, 4, none⟩ (.int .i64 m) := ⟨_, rfl⟩
  rw [← hw4] at F
  have HD : Hid _ := tDigits_any m w4 (HP.out _ F.out.1)
  clear HP
  go_upto_region 22 with (refine wpList_value rfl (exec_eqS rfl rfl rfl (b := true) E8.out) ?_)
  rw [← HM.out, ← hw4]
  clear hw4 fz z0 z1 z2 z3 z4 z5 z6 z7 z8 z9 z10
  have z0 := ck_at F.out.2 0
  have z1 := ck_at F.out.2 1
  have z2 := ck_at F.out.2 2
  have z3 := ck_at F.out.2 3
  have z4 := ck_at F.out.2 4
  have z5 := ck_at F.out.2 5
  have z6 := ck_at F.out.2 6
  have z7 := ck_at F.out.2 7
  have z8 := ck_at F.out.2 8
  have z9 := ck_at F.out.2 9
  have z10 := ck_at F.out.2 10
  simp only [List.getElem?_cons_zero, List.getElem?_cons_succ] at z0 z1 z2 z3 z4 z5 z6 z7 z8 z9 z10
  go_wp2_with fail
  refine (Calls.mono HD.out) ?_
  rintro e w5 ⟨rfl, b5⟩
  clear HD
  have F2 : Hid _ := And.intro (F.out.1.trans ((turned_below b5).mono (fun k h => h.elim))) (F.out.2.laterB b5)
  clear b5 F y0 y1 z0 z1 z2 z3 z4 z5 z6 z7 z8 z9 z10
  go_wp2
  refine bodyPost_ret (v := .tuple #[.string ⟨(dgT m).toArray⟩, .bool true]) (by first | rfl | simp [results, Tryd.results38, go_sem]) rfl ?_
  exact ⟨rfl, F2.out.1, F2.out.2⟩
set_option maxHeartbeats 8000000 in
theorem tAg_9 (g : Nat) (f lo hi : Int) (an : ByteArray) (p : Pm18) (k v : ByteArray) (w : World) (hk : KF k 9) (hB : Blk w g 50 p.c) (hP : ∀ X, Turned (fun k => k = g) w X → PowT X) (hs : v.size ≤ 9223372036854775807) : Calls Tryd.prog 38 #[.pointer (some ⟨g, 0, none⟩), .agg #[.int .i64 f, .int .i64 lo, .int .i64 hi, .string an], .agg #[.string k, .string v]] w fun e w' => e = .returned (.tuple #[.string (agM 9 an p v).2.1, .bool (agM 9 an p v).2.2]) ∧ Turned (fun k => k = g) w w' ∧ Blk w' g 50 (agM 9 an p v).1.c := by
  have HK : Hid _ := hk
  have HP : Hid _ := hP
  clear hk hP
  have N1 := Blk.new' w 65 [.int .i64 f, .int .i64 lo, .int .i64 hi, .string an]
  have bn1 : Below w.heap.size w (w.alloc (.cells #[.int .i64 f, .int .i64 lo, .int .i64 hi, .string an] 65)) := (Below.refl _ _).alloc (Nat.le_refl _) _
  obtain ⟨w1, hw1⟩ : ∃ w1, w1 = w.alloc (.cells #[.int .i64 f, .int .i64 lo, .int .i64 hi, .string an] 65) := ⟨_, rfl⟩
  rw [← hw1] at N1 bn1
  have N2 := Blk.new' w1 59 [.string k, .string v]
  have bn2 : Below w1.heap.size w1 (w1.alloc (.cells #[.string k, .string v] 59)) := (Below.refl _ _).alloc (Nat.le_refl _) _
  obtain ⟨w2, hw2⟩ : ∃ w2, w2 = w1.alloc (.cells #[.string k, .string v] 59) := ⟨_, rfl⟩
  rw [← hw2] at N2 bn2
  obtain ⟨rb, hrb⟩ : ∃ g, g = w.heap.size := ⟨_, rfl⟩
  have hz1 : w1.heap.size = w.heap.size + 1 := by rw [hw1]; simp
  obtain ⟨pb, hpb⟩ : ∃ g, g = w.heap.size + 1 := ⟨_, rfl⟩
  rw [hz1, ← hpb] at N2
  rw [← hrb] at N1
  clear hz1
  have y0 := ck_at N2 0
  have y1 := ck_at N2 1
  simp only [List.getElem?_cons_zero, List.getElem?_cons_succ] at y0 y1
  have HN0 := tNumber_any v w2
  have hnb := nu_bd v.data.toList
  obtain ⟨n, hn⟩ : ∃ n, n = (nuR v.data.toList).1 := ⟨_, rfl⟩
  obtain ⟨E, hE⟩ : ∃ E, E = (nuR v.data.toList).2 := ⟨_, rfl⟩
  rw [← hn, ← hE] at HN0
  rw [← hn] at hnb
  have HN : Hid _ := HN0
  have HG : Hid (agM 9 an p v = ({ p with fi := min n p.fi }, digS (min n p.fi), true)) := (by unfold agM; simp only [← hn] : agM 9 an p v = ({ p with fi := min n p.fi }, digS (min n p.fi), true))
  rw [HG.out]
  simp only
  have HNB : Hid _ := hnb
  clear HG hn hE HN0 hnb
  obtain ⟨m, hm⟩ : ∃ m, m = min n p.fi := ⟨_, rfl⟩
  rw [← hm]
  have HM : Hid _ := hm
  clear hm
  have H2 : Hid _ := And.intro (below_then bn1 bn2) (And.intro N2 (And.intro hB (N1.laterB bn2)))
  clear bn1 bn2 N1 N2 hB
  go_enter Tryd.func38, Tryd.ntmps38
  go_upto_region 1 with fail
  rw [← hw1, ← hw2, ← hpb, ← hrb]
  clear hw1 hw2 hrb hpb
  go_wp2_with fail
  refine (Calls.mono HN.out) ?_
  rintro e w3 ⟨rfl, b3⟩
  clear HN y0 y1
  have P3 := H2.out.2.1.laterB b3
  have B3 := H2.out.2.2.1.laterB (below_then H2.out.1 b3)
  have R3 := H2.out.2.2.2.laterB b3
  have T3 : Turned (fun k => k = g) w w3 := (turned_below (below_then H2.out.1 b3)).mono (fun k h => h.elim)
  clear b3 H2
  have y0 := ck_at P3 0
  have y1 := ck_at P3 1
  simp only [List.getElem?_cons_zero, List.getElem?_cons_succ] at y0 y1
  go_upto_region 5 with fail
  have E0 : Hid _ := (HK.out 0 _ rfl)
  go_upto_region 7 with (refine wpList_value rfl (exec_eqS rfl rfl rfl (b := false) E0.out) ?_)
  clear E0
  have E1 : Hid _ := (HK.out 1 _ rfl)
  go_upto_region 9 with (refine wpList_value rfl (exec_eqS rfl rfl rfl (b := false) E1.out) ?_)
  clear E1
  have E2 : Hid _ := (HK.out 2 _ rfl)
  go_upto_region 11 with (refine wpList_value rfl (exec_eqS rfl rfl rfl (b := false) E2.out) ?_)
  clear E2
  have E3 : Hid _ := (HK.out 3 _ rfl)
  go_upto_region 12 with (refine wpList_value rfl (exec_eqS rfl rfl rfl (b := false) E3.out) ?_)
  clear E3
  have E4 : Hid _ := (HK.out 7 _ rfl)
  go_upto_region 14 with (refine wpList_value rfl (exec_eqS rfl rfl rfl (b := false) E4.out) ?_)
  clear E4
  have E5 : Hid _ := (HK.out 4 _ rfl)
  go_upto_region 16 with (refine wpList_value rfl (exec_eqS rfl rfl rfl (b := false) E5.out) ?_)
  clear E5
  have E6 : Hid _ := (HK.out 5 _ rfl)
  go_upto_region 18 with (refine wpList_value rfl (exec_eqS rfl rfl rfl (b := false) E6.out) ?_)
  clear E6
  have E7 : Hid _ := (HK.out 6 _ rfl)
  go_upto_region 20 with (refine wpList_value rfl (exec_eqS rfl rfl rfl (b := false) E7.out) ?_)
  clear E7
  have E8 : Hid _ := (HK.out 8 _ rfl)
  go_upto_region 23 with (refine wpList_value rfl (exec_eqS rfl rfl rfl (b := false) E8.out) ?_)
  clear E8
  have E9 : Hid _ := (HK.out 9 _ rfl)
  clear HK
  unfold Pm18.c at B3
  have z0 := ck_at B3 0
  have z1 := ck_at B3 1
  have z2 := ck_at B3 2
  have z3 := ck_at B3 3
  have z4 := ck_at B3 4
  have z5 := ck_at B3 5
  have z6 := ck_at B3 6
  have z7 := ck_at B3 7
  have z8 := ck_at B3 8
  have z9 := ck_at B3 9
  have z10 := ck_at B3 10
  simp only [List.getElem?_cons_zero, List.getElem?_cons_succ] at z0 z1 z2 z3 z4 z5 z6 z7 z8 z9 z10
  have fz := ck_fz B3 5
  have S4 := B3.set 5 (.int .i64 (min n p.fi))
  simp only [List.set_cons_zero, List.set_cons_succ] at S4
  have T4 := T3.trans ((turned_set w3 g 5 (.int .i64 (min n p.fi))).mono (fun k h => .inl h))
  have F : Hid _ := And.intro T4 S4
  clear S4 T4 T3 B3 P3 R3
  rw [← HM.out] at F
  obtain ⟨w4, hw4⟩ : ∃ y, y = w3.setCell ⟨g, 5, none⟩ (.int .i64 m) := ⟨_, rfl⟩
  rw [← hw4] at F
  have HD : Hid _ := tDigits_any m w4 (HP.out _ F.out.1)
  clear HP
  go_upto_region 25 with (refine wpList_value rfl (exec_eqS rfl rfl rfl (b := true) E9.out) ?_)
  rw [← HM.out, ← hw4]
  clear hw4 fz z0 z1 z2 z3 z4 z5 z6 z7 z8 z9 z10
  have z0 := ck_at F.out.2 0
  have z1 := ck_at F.out.2 1
  have z2 := ck_at F.out.2 2
  have z3 := ck_at F.out.2 3
  have z4 := ck_at F.out.2 4
  have z5 := ck_at F.out.2 5
  have z6 := ck_at F.out.2 6
  have z7 := ck_at F.out.2 7
  have z8 := ck_at F.out.2 8
  have z9 := ck_at F.out.2 9
  have z10 := ck_at F.out.2 10
  simp only [List.getElem?_cons_zero, List.getElem?_cons_succ] at z0 z1 z2 z3 z4 z5 z6 z7 z8 z9 z10
  go_wp2_with fail
  refine (Calls.mono HD.out) ?_
  rintro e w5 ⟨rfl, b5⟩
  clear HD
  have F2 : Hid _ := And.intro (F.out.1.trans ((turned_below b5).mono (fun k h => h.elim))) (F.out.2.laterB b5)
  clear b5 F y0 y1 z0 z1 z2 z3 z4 z5 z6 z7 z8 z9 z10
  go_wp2
  refine bodyPost_ret (v := .tuple #[.string ⟨(dgT m).toArray⟩, .bool true]) (by first | rfl | simp [results, Tryd.results38, go_sem]) rfl ?_
  exact ⟨rfl, F2.out.1, F2.out.2⟩
set_option maxHeartbeats 8000000 in
theorem tAg_10 (g : Nat) (f lo hi : Int) (an : ByteArray) (p : Pm18) (k v : ByteArray) (w : World) (hk : KF k 10) (hB : Blk w g 50 p.c) (hP : ∀ X, Turned (fun k => k = g) w X → PowT X) (hs : v.size ≤ 9223372036854775807) : Calls Tryd.prog 38 #[.pointer (some ⟨g, 0, none⟩), .agg #[.int .i64 f, .int .i64 lo, .int .i64 hi, .string an], .agg #[.string k, .string v]] w fun e w' => e = .returned (.tuple #[.string (agM 10 an p v).2.1, .bool (agM 10 an p v).2.2]) ∧ Turned (fun k => k = g) w w' ∧ Blk w' g 50 (agM 10 an p v).1.c := by
  have HK : Hid _ := hk
  have HP : Hid _ := hP
  clear hk hP
  have N1 := Blk.new' w 65 [.int .i64 f, .int .i64 lo, .int .i64 hi, .string an]
  have bn1 : Below w.heap.size w (w.alloc (.cells #[.int .i64 f, .int .i64 lo, .int .i64 hi, .string an] 65)) := (Below.refl _ _).alloc (Nat.le_refl _) _
  obtain ⟨w1, hw1⟩ : ∃ w1, w1 = w.alloc (.cells #[.int .i64 f, .int .i64 lo, .int .i64 hi, .string an] 65) := ⟨_, rfl⟩
  rw [← hw1] at N1 bn1
  have N2 := Blk.new' w1 59 [.string k, .string v]
  have bn2 : Below w1.heap.size w1 (w1.alloc (.cells #[.string k, .string v] 59)) := (Below.refl _ _).alloc (Nat.le_refl _) _
  obtain ⟨w2, hw2⟩ : ∃ w2, w2 = w1.alloc (.cells #[.string k, .string v] 59) := ⟨_, rfl⟩
  rw [← hw2] at N2 bn2
  obtain ⟨rb, hrb⟩ : ∃ g, g = w.heap.size := ⟨_, rfl⟩
  have hz1 : w1.heap.size = w.heap.size + 1 := by rw [hw1]; simp
  obtain ⟨pb, hpb⟩ : ∃ g, g = w.heap.size + 1 := ⟨_, rfl⟩
  rw [hz1, ← hpb] at N2
  rw [← hrb] at N1
  clear hz1
  have y0 := ck_at N2 0
  have y1 := ck_at N2 1
  simp only [List.getElem?_cons_zero, List.getElem?_cons_succ] at y0 y1
  have HN0 := tNumber_any v w2
  have hnb := nu_bd v.data.toList
  obtain ⟨n, hn⟩ : ∃ n, n = (nuR v.data.toList).1 := ⟨_, rfl⟩
  obtain ⟨E, hE⟩ : ∃ E, E = (nuR v.data.toList).2 := ⟨_, rfl⟩
  rw [← hn, ← hE] at HN0
  rw [← hn] at hnb
  have HN : Hid _ := HN0
  have HG : Hid (agM 10 an p v = ({ p with a := p.a || v.toList == yesS.toList }, ynS (p.a || v.toList == yesS.toList), true)) := (rfl : agM 10 an p v = ({ p with a := p.a || v.toList == yesS.toList }, ynS (p.a || v.toList == yesS.toList), true))
  rw [HG.out]
  simp only
  have HNB : Hid _ := hnb
  clear HG hn hE HN0 hnb
  obtain ⟨b2, h2⟩ : ∃ b, (v.toList == yesS.toList) = b := ⟨_, rfl⟩
  rw [h2]
  have EV : Hid _ := h2
  clear h2
  obtain ⟨phs, pds, pmo, pmi, pbu, pfi, pa, pim, pdi, pini, ptgt⟩ := p
  simp only
  have H2 : Hid _ := And.intro (below_then bn1 bn2) (And.intro N2 (And.intro hB (N1.laterB bn2)))
  clear bn1 bn2 N1 N2 hB
  go_enter Tryd.func38, Tryd.ntmps38
  go_upto_region 1 with fail
  rw [← hw1, ← hw2, ← hpb, ← hrb]
  clear hw1 hw2 hrb hpb
  go_wp2_with fail
  refine (Calls.mono HN.out) ?_
  rintro e w3 ⟨rfl, b3⟩
  clear HN y0 y1
  have P3 := H2.out.2.1.laterB b3
  have B3 := H2.out.2.2.1.laterB (below_then H2.out.1 b3)
  have R3 := H2.out.2.2.2.laterB b3
  have T3 : Turned (fun k => k = g) w w3 := (turned_below (below_then H2.out.1 b3)).mono (fun k h => h.elim)
  clear b3 H2
  have y0 := ck_at P3 0
  have y1 := ck_at P3 1
  simp only [List.getElem?_cons_zero, List.getElem?_cons_succ] at y0 y1
  go_upto_region 5 with fail
  have E0 : Hid _ := (HK.out 0 _ rfl)
  go_upto_region 7 with (refine wpList_value rfl (exec_eqS rfl rfl rfl (b := false) E0.out) ?_)
  clear E0
  have E1 : Hid _ := (HK.out 1 _ rfl)
  go_upto_region 9 with (refine wpList_value rfl (exec_eqS rfl rfl rfl (b := false) E1.out) ?_)
  clear E1
  have E2 : Hid _ := (HK.out 2 _ rfl)
  go_upto_region 11 with (refine wpList_value rfl (exec_eqS rfl rfl rfl (b := false) E2.out) ?_)
  clear E2
  have E3 : Hid _ := (HK.out 3 _ rfl)
  go_upto_region 12 with (refine wpList_value rfl (exec_eqS rfl rfl rfl (b := false) E3.out) ?_)
  clear E3
  have E4 : Hid _ := (HK.out 7 _ rfl)
  go_upto_region 14 with (refine wpList_value rfl (exec_eqS rfl rfl rfl (b := false) E4.out) ?_)
  clear E4
  have E5 : Hid _ := (HK.out 4 _ rfl)
  go_upto_region 16 with (refine wpList_value rfl (exec_eqS rfl rfl rfl (b := false) E5.out) ?_)
  clear E5
  have E6 : Hid _ := (HK.out 5 _ rfl)
  go_upto_region 18 with (refine wpList_value rfl (exec_eqS rfl rfl rfl (b := false) E6.out) ?_)
  clear E6
  have E7 : Hid _ := (HK.out 6 _ rfl)
  go_upto_region 20 with (refine wpList_value rfl (exec_eqS rfl rfl rfl (b := false) E7.out) ?_)
  clear E7
  have E8 : Hid _ := (HK.out 8 _ rfl)
  go_upto_region 23 with (refine wpList_value rfl (exec_eqS rfl rfl rfl (b := false) E8.out) ?_)
  clear E8
  have E9 : Hid _ := (HK.out 9 _ rfl)
  go_upto_region 26 with (refine wpList_value rfl (exec_eqS rfl rfl rfl (b := false) E9.out) ?_)
  clear E9
  have E10 : Hid _ := (HK.out 10 _ rfl)
  clear HK
  unfold Pm18.c at B3
  simp only at B3
  cases pa
  · skip
    have z0 := ck_at B3 0
    have z1 := ck_at B3 1
    have z2 := ck_at B3 2
    have z3 := ck_at B3 3
    have z4 := ck_at B3 4
    have z5 := ck_at B3 5
    have z6 := ck_at B3 6
    have z7 := ck_at B3 7
    have z8 := ck_at B3 8
    have z9 := ck_at B3 9
    have z10 := ck_at B3 10
    simp only [List.getElem?_cons_zero, List.getElem?_cons_succ] at z0 z1 z2 z3 z4 z5 z6 z7 z8 z9 z10
    have fz := ck_fz B3 6
    have S4 := B3.set 6 (.bool b2)
    simp only [List.set_cons_zero, List.set_cons_succ] at S4
    have T4 := T3.trans ((turned_set w3 g 6 (.bool b2)).mono (fun k h => .inl h))
    have F : Hid _ := And.intro T4 S4
    clear S4 T4 T3 B3 P3 R3
    cases b2
    · have ev : (v.toList == [89, 101, 115]) = false := by have h := EV.out; simp only [ByteArray.toList_eq] at h ⊢; exact h
      go_wp2_with (first | (refine wpList_value rfl (exec_eqS rfl rfl rfl (b := true) E10.out) ?_) | (refine wpList_value rfl (exec_eqS rfl rfl rfl EV.out) ?_))
      refine (Calls.mono (tYn_any _ _)) ?_
      rintro e _ ⟨rfl, rfl⟩
      go_wp2
      refine bodyPost_ret (v := .tuple #[.string (ynS false), .bool true]) (by first | rfl | simp [results, Tryd.results38, go_sem]) rfl ?_
      exact ⟨by first | rfl | simp [ynS], F.out.1, F.out.2⟩
    · have ev : (v.toList == [89, 101, 115]) = true := by have h := EV.out; simp only [ByteArray.toList_eq] at h ⊢; exact h
      go_wp2_with (first | (refine wpList_value rfl (exec_eqS rfl rfl rfl (b := true) E10.out) ?_) | (refine wpList_value rfl (exec_eqS rfl rfl rfl EV.out) ?_))
      refine (Calls.mono (tYn_any _ _)) ?_
      rintro e _ ⟨rfl, rfl⟩
      go_wp2
      refine bodyPost_ret (v := .tuple #[.string (ynS true), .bool true]) (by first | rfl | simp [results, Tryd.results38, go_sem]) rfl ?_
      exact ⟨by first | rfl | simp [ynS], F.out.1, F.out.2⟩
  · skip
    have z0 := ck_at B3 0
    have z1 := ck_at B3 1
    have z2 := ck_at B3 2
    have z3 := ck_at B3 3
    have z4 := ck_at B3 4
    have z5 := ck_at B3 5
    have z6 := ck_at B3 6
    have z7 := ck_at B3 7
    have z8 := ck_at B3 8
    have z9 := ck_at B3 9
    have z10 := ck_at B3 10
    simp only [List.getElem?_cons_zero, List.getElem?_cons_succ] at z0 z1 z2 z3 z4 z5 z6 z7 z8 z9 z10
    have fz := ck_fz B3 6
    have S4 := B3.set 6 (.bool true)
    simp only [List.set_cons_zero, List.set_cons_succ] at S4
    have T4 := T3.trans ((turned_set w3 g 6 (.bool true)).mono (fun k h => .inl h))
    have F : Hid _ := And.intro T4 S4
    clear S4 T4 T3 B3 P3 R3
    go_wp2_with (first | (refine wpList_value rfl (exec_eqS rfl rfl rfl (b := true) E10.out) ?_) | (refine wpList_value rfl (exec_eqS rfl rfl rfl EV.out) ?_))
    refine (Calls.mono (tYn_any _ _)) ?_
    rintro e _ ⟨rfl, rfl⟩
    go_wp2
    refine bodyPost_ret (v := .tuple #[.string (ynS true), .bool true]) (by first | rfl | simp [results, Tryd.results38, go_sem]) rfl ?_
    exact ⟨by first | rfl | simp [ynS], F.out.1, F.out.2⟩
set_option maxHeartbeats 8000000 in
theorem tAg_11 (g : Nat) (f lo hi : Int) (an : ByteArray) (p : Pm18) (k v : ByteArray) (w : World) (hk : KF k 11) (hB : Blk w g 50 p.c) (hP : ∀ X, Turned (fun k => k = g) w X → PowT X) (hs : v.size ≤ 9223372036854775807) : Calls Tryd.prog 38 #[.pointer (some ⟨g, 0, none⟩), .agg #[.int .i64 f, .int .i64 lo, .int .i64 hi, .string an], .agg #[.string k, .string v]] w fun e w' => e = .returned (.tuple #[.string (agM 11 an p v).2.1, .bool (agM 11 an p v).2.2]) ∧ Turned (fun k => k = g) w w' ∧ Blk w' g 50 (agM 11 an p v).1.c := by
  have HK : Hid _ := hk
  have HP : Hid _ := hP
  clear hk hP
  have N1 := Blk.new' w 65 [.int .i64 f, .int .i64 lo, .int .i64 hi, .string an]
  have bn1 : Below w.heap.size w (w.alloc (.cells #[.int .i64 f, .int .i64 lo, .int .i64 hi, .string an] 65)) := (Below.refl _ _).alloc (Nat.le_refl _) _
  obtain ⟨w1, hw1⟩ : ∃ w1, w1 = w.alloc (.cells #[.int .i64 f, .int .i64 lo, .int .i64 hi, .string an] 65) := ⟨_, rfl⟩
  rw [← hw1] at N1 bn1
  have N2 := Blk.new' w1 59 [.string k, .string v]
  have bn2 : Below w1.heap.size w1 (w1.alloc (.cells #[.string k, .string v] 59)) := (Below.refl _ _).alloc (Nat.le_refl _) _
  obtain ⟨w2, hw2⟩ : ∃ w2, w2 = w1.alloc (.cells #[.string k, .string v] 59) := ⟨_, rfl⟩
  rw [← hw2] at N2 bn2
  obtain ⟨rb, hrb⟩ : ∃ g, g = w.heap.size := ⟨_, rfl⟩
  have hz1 : w1.heap.size = w.heap.size + 1 := by rw [hw1]; simp
  obtain ⟨pb, hpb⟩ : ∃ g, g = w.heap.size + 1 := ⟨_, rfl⟩
  rw [hz1, ← hpb] at N2
  rw [← hrb] at N1
  clear hz1
  have y0 := ck_at N2 0
  have y1 := ck_at N2 1
  simp only [List.getElem?_cons_zero, List.getElem?_cons_succ] at y0 y1
  have HN0 := tNumber_any v w2
  have hnb := nu_bd v.data.toList
  obtain ⟨n, hn⟩ : ∃ n, n = (nuR v.data.toList).1 := ⟨_, rfl⟩
  obtain ⟨E, hE⟩ : ∃ E, E = (nuR v.data.toList).2 := ⟨_, rfl⟩
  rw [← hn, ← hE] at HN0
  rw [← hn] at hnb
  have HN : Hid _ := HN0
  have HG : Hid (agM 11 an p v = ({ p with imd := p.imd && v.toList == yesS.toList }, ynS (p.imd && v.toList == yesS.toList), true)) := (rfl : agM 11 an p v = ({ p with imd := p.imd && v.toList == yesS.toList }, ynS (p.imd && v.toList == yesS.toList), true))
  rw [HG.out]
  simp only
  have HNB : Hid _ := hnb
  clear HG hn hE HN0 hnb
  obtain ⟨b2, h2⟩ : ∃ b, (v.toList == yesS.toList) = b := ⟨_, rfl⟩
  rw [h2]
  have EV : Hid _ := h2
  clear h2
  obtain ⟨phs, pds, pmo, pmi, pbu, pfi, pa, pim, pdi, pini, ptgt⟩ := p
  simp only
  have H2 : Hid _ := And.intro (below_then bn1 bn2) (And.intro N2 (And.intro hB (N1.laterB bn2)))
  clear bn1 bn2 N1 N2 hB
  go_enter Tryd.func38, Tryd.ntmps38
  go_upto_region 1 with fail
  rw [← hw1, ← hw2, ← hpb, ← hrb]
  clear hw1 hw2 hrb hpb
  go_wp2_with fail
  refine (Calls.mono HN.out) ?_
  rintro e w3 ⟨rfl, b3⟩
  clear HN y0 y1
  have P3 := H2.out.2.1.laterB b3
  have B3 := H2.out.2.2.1.laterB (below_then H2.out.1 b3)
  have R3 := H2.out.2.2.2.laterB b3
  have T3 : Turned (fun k => k = g) w w3 := (turned_below (below_then H2.out.1 b3)).mono (fun k h => h.elim)
  clear b3 H2
  have y0 := ck_at P3 0
  have y1 := ck_at P3 1
  simp only [List.getElem?_cons_zero, List.getElem?_cons_succ] at y0 y1
  go_upto_region 5 with fail
  have E0 : Hid _ := (HK.out 0 _ rfl)
  go_upto_region 7 with (refine wpList_value rfl (exec_eqS rfl rfl rfl (b := false) E0.out) ?_)
  clear E0
  have E1 : Hid _ := (HK.out 1 _ rfl)
  go_upto_region 9 with (refine wpList_value rfl (exec_eqS rfl rfl rfl (b := false) E1.out) ?_)
  clear E1
  have E2 : Hid _ := (HK.out 2 _ rfl)
  go_upto_region 11 with (refine wpList_value rfl (exec_eqS rfl rfl rfl (b := false) E2.out) ?_)
  clear E2
  have E3 : Hid _ := (HK.out 3 _ rfl)
  go_upto_region 12 with (refine wpList_value rfl (exec_eqS rfl rfl rfl (b := false) E3.out) ?_)
  clear E3
  have E4 : Hid _ := (HK.out 7 _ rfl)
  go_upto_region 14 with (refine wpList_value rfl (exec_eqS rfl rfl rfl (b := false) E4.out) ?_)
  clear E4
  have E5 : Hid _ := (HK.out 4 _ rfl)
  go_upto_region 16 with (refine wpList_value rfl (exec_eqS rfl rfl rfl (b := false) E5.out) ?_)
  clear E5
  have E6 : Hid _ := (HK.out 5 _ rfl)
  go_upto_region 18 with (refine wpList_value rfl (exec_eqS rfl rfl rfl (b := false) E6.out) ?_)
  clear E6
  have E7 : Hid _ := (HK.out 6 _ rfl)
  go_upto_region 20 with (refine wpList_value rfl (exec_eqS rfl rfl rfl (b := false) E7.out) ?_)
  clear E7
  have E8 : Hid _ := (HK.out 8 _ rfl)
  go_upto_region 23 with (refine wpList_value rfl (exec_eqS rfl rfl rfl (b := false) E8.out) ?_)
  clear E8
  have E9 : Hid _ := (HK.out 9 _ rfl)
  go_upto_region 26 with (refine wpList_value rfl (exec_eqS rfl rfl rfl (b := false) E9.out) ?_)
  clear E9
  have E10 : Hid _ := (HK.out 10 _ rfl)
  go_upto_region 29 with (refine wpList_value rfl (exec_eqS rfl rfl rfl (b := false) E10.out) ?_)
  clear E10
  have E11 : Hid _ := (HK.out 11 _ rfl)
  clear HK
  unfold Pm18.c at B3
  simp only at B3
  cases pim
  · skip
    have z0 := ck_at B3 0
    have z1 := ck_at B3 1
    have z2 := ck_at B3 2
    have z3 := ck_at B3 3
    have z4 := ck_at B3 4
    have z5 := ck_at B3 5
    have z6 := ck_at B3 6
    have z7 := ck_at B3 7
    have z8 := ck_at B3 8
    have z9 := ck_at B3 9
    have z10 := ck_at B3 10
    simp only [List.getElem?_cons_zero, List.getElem?_cons_succ] at z0 z1 z2 z3 z4 z5 z6 z7 z8 z9 z10
    have fz := ck_fz B3 7
    have S4 := B3.set 7 (.bool false)
    simp only [List.set_cons_zero, List.set_cons_succ] at S4
    have T4 := T3.trans ((turned_set w3 g 7 (.bool false)).mono (fun k h => .inl h))
    have F : Hid _ := And.intro T4 S4
    clear S4 T4 T3 B3 P3 R3
    go_wp2_with (first | (refine wpList_value rfl (exec_eqS rfl rfl rfl (b := true) E11.out) ?_) | (refine wpList_value rfl (exec_eqS rfl rfl rfl EV.out) ?_))
    refine (Calls.mono (tYn_any _ _)) ?_
    rintro e _ ⟨rfl, rfl⟩
    go_wp2
    refine bodyPost_ret (v := .tuple #[.string (ynS false), .bool true]) (by first | rfl | simp [results, Tryd.results38, go_sem]) rfl ?_
    exact ⟨by first | rfl | simp [ynS], F.out.1, F.out.2⟩
  · skip
    have z0 := ck_at B3 0
    have z1 := ck_at B3 1
    have z2 := ck_at B3 2
    have z3 := ck_at B3 3
    have z4 := ck_at B3 4
    have z5 := ck_at B3 5
    have z6 := ck_at B3 6
    have z7 := ck_at B3 7
    have z8 := ck_at B3 8
    have z9 := ck_at B3 9
    have z10 := ck_at B3 10
    simp only [List.getElem?_cons_zero, List.getElem?_cons_succ] at z0 z1 z2 z3 z4 z5 z6 z7 z8 z9 z10
    have fz := ck_fz B3 7
    have S4 := B3.set 7 (.bool b2)
    simp only [List.set_cons_zero, List.set_cons_succ] at S4
    have T4 := T3.trans ((turned_set w3 g 7 (.bool b2)).mono (fun k h => .inl h))
    have F : Hid _ := And.intro T4 S4
    clear S4 T4 T3 B3 P3 R3
    cases b2
    · have ev : (v.toList == [89, 101, 115]) = false := by have h := EV.out; simp only [ByteArray.toList_eq] at h ⊢; exact h
      go_wp2_with (first | (refine wpList_value rfl (exec_eqS rfl rfl rfl (b := true) E11.out) ?_) | (refine wpList_value rfl (exec_eqS rfl rfl rfl EV.out) ?_))
      refine (Calls.mono (tYn_any _ _)) ?_
      rintro e _ ⟨rfl, rfl⟩
      go_wp2
      refine bodyPost_ret (v := .tuple #[.string (ynS false), .bool true]) (by first | rfl | simp [results, Tryd.results38, go_sem]) rfl ?_
      exact ⟨by first | rfl | simp [ynS], F.out.1, F.out.2⟩
    · have ev : (v.toList == [89, 101, 115]) = true := by have h := EV.out; simp only [ByteArray.toList_eq] at h ⊢; exact h
      go_wp2_with (first | (refine wpList_value rfl (exec_eqS rfl rfl rfl (b := true) E11.out) ?_) | (refine wpList_value rfl (exec_eqS rfl rfl rfl EV.out) ?_))
      refine (Calls.mono (tYn_any _ _)) ?_
      rintro e _ ⟨rfl, rfl⟩
      go_wp2
      refine bodyPost_ret (v := .tuple #[.string (ynS true), .bool true]) (by first | rfl | simp [results, Tryd.results38, go_sem]) rfl ?_
      exact ⟨by first | rfl | simp [ynS], F.out.1, F.out.2⟩
set_option maxHeartbeats 8000000 in
theorem tAg_12 (g : Nat) (f lo hi : Int) (an : ByteArray) (p : Pm18) (k v : ByteArray) (w : World) (hk : KF k 12) (hB : Blk w g 50 p.c) (hP : ∀ X, Turned (fun k => k = g) w X → PowT X) (hs : v.size ≤ 9223372036854775807) : Calls Tryd.prog 38 #[.pointer (some ⟨g, 0, none⟩), .agg #[.int .i64 f, .int .i64 lo, .int .i64 hi, .string an], .agg #[.string k, .string v]] w fun e w' => e = .returned (.tuple #[.string (agM 12 an p v).2.1, .bool (agM 12 an p v).2.2]) ∧ Turned (fun k => k = g) w w' ∧ Blk w' g 50 (agM 12 an p v).1.c := by
  have HK : Hid _ := hk
  have HP : Hid _ := hP
  clear hk hP
  have N1 := Blk.new' w 65 [.int .i64 f, .int .i64 lo, .int .i64 hi, .string an]
  have bn1 : Below w.heap.size w (w.alloc (.cells #[.int .i64 f, .int .i64 lo, .int .i64 hi, .string an] 65)) := (Below.refl _ _).alloc (Nat.le_refl _) _
  obtain ⟨w1, hw1⟩ : ∃ w1, w1 = w.alloc (.cells #[.int .i64 f, .int .i64 lo, .int .i64 hi, .string an] 65) := ⟨_, rfl⟩
  rw [← hw1] at N1 bn1
  have N2 := Blk.new' w1 59 [.string k, .string v]
  have bn2 : Below w1.heap.size w1 (w1.alloc (.cells #[.string k, .string v] 59)) := (Below.refl _ _).alloc (Nat.le_refl _) _
  obtain ⟨w2, hw2⟩ : ∃ w2, w2 = w1.alloc (.cells #[.string k, .string v] 59) := ⟨_, rfl⟩
  rw [← hw2] at N2 bn2
  obtain ⟨rb, hrb⟩ : ∃ g, g = w.heap.size := ⟨_, rfl⟩
  have hz1 : w1.heap.size = w.heap.size + 1 := by rw [hw1]; simp
  obtain ⟨pb, hpb⟩ : ∃ g, g = w.heap.size + 1 := ⟨_, rfl⟩
  rw [hz1, ← hpb] at N2
  rw [← hrb] at N1
  clear hz1
  have y0 := ck_at N2 0
  have y1 := ck_at N2 1
  simp only [List.getElem?_cons_zero, List.getElem?_cons_succ] at y0 y1
  have HN0 := tNumber_any v w2
  have hnb := nu_bd v.data.toList
  obtain ⟨n, hn⟩ : ∃ n, n = (nuR v.data.toList).1 := ⟨_, rfl⟩
  obtain ⟨E, hE⟩ : ∃ E, E = (nuR v.data.toList).2 := ⟨_, rfl⟩
  rw [← hn, ← hE] at HN0
  rw [← hn] at hnb
  have HN : Hid _ := HN0
  have HG : Hid (agM 12 an p v = (p, an, true)) := (rfl : agM 12 an p v = (p, an, true))
  rw [HG.out]
  simp only
  have HNB : Hid _ := hnb
  clear HG hn hE HN0 hnb
  have H2 : Hid _ := And.intro (below_then bn1 bn2) (And.intro N2 (And.intro hB (N1.laterB bn2)))
  clear bn1 bn2 N1 N2 hB
  go_enter Tryd.func38, Tryd.ntmps38
  go_upto_region 1 with fail
  rw [← hw1, ← hw2, ← hpb, ← hrb]
  clear hw1 hw2 hrb hpb
  go_wp2_with fail
  refine (Calls.mono HN.out) ?_
  rintro e w3 ⟨rfl, b3⟩
  clear HN y0 y1
  have P3 := H2.out.2.1.laterB b3
  have B3 := H2.out.2.2.1.laterB (below_then H2.out.1 b3)
  have R3 := H2.out.2.2.2.laterB b3
  have T3 : Turned (fun k => k = g) w w3 := (turned_below (below_then H2.out.1 b3)).mono (fun k h => h.elim)
  clear b3 H2
  have y0 := ck_at P3 0
  have y1 := ck_at P3 1
  simp only [List.getElem?_cons_zero, List.getElem?_cons_succ] at y0 y1
  go_upto_region 5 with fail
  have E0 : Hid _ := (HK.out 0 _ rfl)
  go_upto_region 7 with (refine wpList_value rfl (exec_eqS rfl rfl rfl (b := false) E0.out) ?_)
  clear E0
  have E1 : Hid _ := (HK.out 1 _ rfl)
  go_upto_region 9 with (refine wpList_value rfl (exec_eqS rfl rfl rfl (b := false) E1.out) ?_)
  clear E1
  have E2 : Hid _ := (HK.out 2 _ rfl)
  go_upto_region 11 with (refine wpList_value rfl (exec_eqS rfl rfl rfl (b := false) E2.out) ?_)
  clear E2
  have E3 : Hid _ := (HK.out 3 _ rfl)
  go_upto_region 12 with (refine wpList_value rfl (exec_eqS rfl rfl rfl (b := false) E3.out) ?_)
  clear E3
  have E4 : Hid _ := (HK.out 7 _ rfl)
  go_upto_region 14 with (refine wpList_value rfl (exec_eqS rfl rfl rfl (b := false) E4.out) ?_)
  clear E4
  have E5 : Hid _ := (HK.out 4 _ rfl)
  go_upto_region 16 with (refine wpList_value rfl (exec_eqS rfl rfl rfl (b := false) E5.out) ?_)
  clear E5
  have E6 : Hid _ := (HK.out 5 _ rfl)
  go_upto_region 18 with (refine wpList_value rfl (exec_eqS rfl rfl rfl (b := false) E6.out) ?_)
  clear E6
  have E7 : Hid _ := (HK.out 6 _ rfl)
  go_upto_region 20 with (refine wpList_value rfl (exec_eqS rfl rfl rfl (b := false) E7.out) ?_)
  clear E7
  have E8 : Hid _ := (HK.out 8 _ rfl)
  go_upto_region 23 with (refine wpList_value rfl (exec_eqS rfl rfl rfl (b := false) E8.out) ?_)
  clear E8
  have E9 : Hid _ := (HK.out 9 _ rfl)
  go_upto_region 26 with (refine wpList_value rfl (exec_eqS rfl rfl rfl (b := false) E9.out) ?_)
  clear E9
  have E10 : Hid _ := (HK.out 10 _ rfl)
  go_upto_region 29 with (refine wpList_value rfl (exec_eqS rfl rfl rfl (b := false) E10.out) ?_)
  clear E10
  have E11 : Hid _ := (HK.out 11 _ rfl)
  go_upto_region 32 with (refine wpList_value rfl (exec_eqS rfl rfl rfl (b := false) E11.out) ?_)
  clear E11
  have E12 : Hid _ := (HK.out 15 _ rfl)
  clear HK
  have x0 := ck_at R3 0
  have x1 := ck_at R3 1
  have x2 := ck_at R3 2
  have x3 := ck_at R3 3
  simp only [List.getElem?_cons_zero, List.getElem?_cons_succ] at x0 x1 x2 x3
  have F : Hid _ := And.intro T3 B3
  clear T3 B3 P3 R3
  go_wp2_with (refine wpList_value rfl (exec_eqS rfl rfl rfl (b := false) E12.out) ?_)
  refine bodyPost_ret (v := .tuple #[.string an, .bool true]) (by first | rfl | simp [results, Tryd.results38, go_sem]) rfl ?_
  exact ⟨rfl, F.out.1, F.out.2⟩
set_option maxHeartbeats 8000000 in
theorem tAg_13 (g : Nat) (f lo hi : Int) (an : ByteArray) (p : Pm18) (k v : ByteArray) (w : World) (hk : KF k 13) (hB : Blk w g 50 p.c) (hP : ∀ X, Turned (fun k => k = g) w X → PowT X) (hs : v.size ≤ 9223372036854775807) : Calls Tryd.prog 38 #[.pointer (some ⟨g, 0, none⟩), .agg #[.int .i64 f, .int .i64 lo, .int .i64 hi, .string an], .agg #[.string k, .string v]] w fun e w' => e = .returned (.tuple #[.string (agM 13 an p v).2.1, .bool (agM 13 an p v).2.2]) ∧ Turned (fun k => k = g) w w' ∧ Blk w' g 50 (agM 13 an p v).1.c := by
  have HK : Hid _ := hk
  have HP : Hid _ := hP
  clear hk hP
  have N1 := Blk.new' w 65 [.int .i64 f, .int .i64 lo, .int .i64 hi, .string an]
  have bn1 : Below w.heap.size w (w.alloc (.cells #[.int .i64 f, .int .i64 lo, .int .i64 hi, .string an] 65)) := (Below.refl _ _).alloc (Nat.le_refl _) _
  obtain ⟨w1, hw1⟩ : ∃ w1, w1 = w.alloc (.cells #[.int .i64 f, .int .i64 lo, .int .i64 hi, .string an] 65) := ⟨_, rfl⟩
  rw [← hw1] at N1 bn1
  have N2 := Blk.new' w1 59 [.string k, .string v]
  have bn2 : Below w1.heap.size w1 (w1.alloc (.cells #[.string k, .string v] 59)) := (Below.refl _ _).alloc (Nat.le_refl _) _
  obtain ⟨w2, hw2⟩ : ∃ w2, w2 = w1.alloc (.cells #[.string k, .string v] 59) := ⟨_, rfl⟩
  rw [← hw2] at N2 bn2
  obtain ⟨rb, hrb⟩ : ∃ g, g = w.heap.size := ⟨_, rfl⟩
  have hz1 : w1.heap.size = w.heap.size + 1 := by rw [hw1]; simp
  obtain ⟨pb, hpb⟩ : ∃ g, g = w.heap.size + 1 := ⟨_, rfl⟩
  rw [hz1, ← hpb] at N2
  rw [← hrb] at N1
  clear hz1
  have y0 := ck_at N2 0
  have y1 := ck_at N2 1
  simp only [List.getElem?_cons_zero, List.getElem?_cons_succ] at y0 y1
  have HN0 := tNumber_any v w2
  have hnb := nu_bd v.data.toList
  obtain ⟨n, hn⟩ : ∃ n, n = (nuR v.data.toList).1 := ⟨_, rfl⟩
  obtain ⟨E, hE⟩ : ∃ E, E = (nuR v.data.toList).2 := ⟨_, rfl⟩
  rw [← hn, ← hE] at HN0
  rw [← hn] at hnb
  have HN : Hid _ := HN0
  have HG : Hid (agM 13 an p v = (p, an, true)) := (rfl : agM 13 an p v = (p, an, true))
  rw [HG.out]
  simp only
  have HNB : Hid _ := hnb
  clear HG hn hE HN0 hnb
  have H2 : Hid _ := And.intro (below_then bn1 bn2) (And.intro N2 (And.intro hB (N1.laterB bn2)))
  clear bn1 bn2 N1 N2 hB
  go_enter Tryd.func38, Tryd.ntmps38
  go_upto_region 1 with fail
  rw [← hw1, ← hw2, ← hpb, ← hrb]
  clear hw1 hw2 hrb hpb
  go_wp2_with fail
  refine (Calls.mono HN.out) ?_
  rintro e w3 ⟨rfl, b3⟩
  clear HN y0 y1
  have P3 := H2.out.2.1.laterB b3
  have B3 := H2.out.2.2.1.laterB (below_then H2.out.1 b3)
  have R3 := H2.out.2.2.2.laterB b3
  have T3 : Turned (fun k => k = g) w w3 := (turned_below (below_then H2.out.1 b3)).mono (fun k h => h.elim)
  clear b3 H2
  have y0 := ck_at P3 0
  have y1 := ck_at P3 1
  simp only [List.getElem?_cons_zero, List.getElem?_cons_succ] at y0 y1
  go_upto_region 5 with fail
  have E0 : Hid _ := (HK.out 0 _ rfl)
  go_upto_region 7 with (refine wpList_value rfl (exec_eqS rfl rfl rfl (b := false) E0.out) ?_)
  clear E0
  have E1 : Hid _ := (HK.out 1 _ rfl)
  go_upto_region 9 with (refine wpList_value rfl (exec_eqS rfl rfl rfl (b := false) E1.out) ?_)
  clear E1
  have E2 : Hid _ := (HK.out 2 _ rfl)
  go_upto_region 11 with (refine wpList_value rfl (exec_eqS rfl rfl rfl (b := false) E2.out) ?_)
  clear E2
  have E3 : Hid _ := (HK.out 3 _ rfl)
  go_upto_region 12 with (refine wpList_value rfl (exec_eqS rfl rfl rfl (b := false) E3.out) ?_)
  clear E3
  have E4 : Hid _ := (HK.out 7 _ rfl)
  go_upto_region 14 with (refine wpList_value rfl (exec_eqS rfl rfl rfl (b := false) E4.out) ?_)
  clear E4
  have E5 : Hid _ := (HK.out 4 _ rfl)
  go_upto_region 16 with (refine wpList_value rfl (exec_eqS rfl rfl rfl (b := false) E5.out) ?_)
  clear E5
  have E6 : Hid _ := (HK.out 5 _ rfl)
  go_upto_region 18 with (refine wpList_value rfl (exec_eqS rfl rfl rfl (b := false) E6.out) ?_)
  clear E6
  have E7 : Hid _ := (HK.out 6 _ rfl)
  go_upto_region 20 with (refine wpList_value rfl (exec_eqS rfl rfl rfl (b := false) E7.out) ?_)
  clear E7
  have E8 : Hid _ := (HK.out 8 _ rfl)
  go_upto_region 23 with (refine wpList_value rfl (exec_eqS rfl rfl rfl (b := false) E8.out) ?_)
  clear E8
  have E9 : Hid _ := (HK.out 9 _ rfl)
  go_upto_region 26 with (refine wpList_value rfl (exec_eqS rfl rfl rfl (b := false) E9.out) ?_)
  clear E9
  have E10 : Hid _ := (HK.out 10 _ rfl)
  go_upto_region 29 with (refine wpList_value rfl (exec_eqS rfl rfl rfl (b := false) E10.out) ?_)
  clear E10
  have E11 : Hid _ := (HK.out 11 _ rfl)
  go_upto_region 32 with (refine wpList_value rfl (exec_eqS rfl rfl rfl (b := false) E11.out) ?_)
  clear E11
  have E12 : Hid _ := (HK.out 15 _ rfl)
  clear HK
  have x0 := ck_at R3 0
  have x1 := ck_at R3 1
  have x2 := ck_at R3 2
  have x3 := ck_at R3 3
  simp only [List.getElem?_cons_zero, List.getElem?_cons_succ] at x0 x1 x2 x3
  have F : Hid _ := And.intro T3 B3
  clear T3 B3 P3 R3
  go_wp2_with (refine wpList_value rfl (exec_eqS rfl rfl rfl (b := false) E12.out) ?_)
  refine bodyPost_ret (v := .tuple #[.string an, .bool true]) (by first | rfl | simp [results, Tryd.results38, go_sem]) rfl ?_
  exact ⟨rfl, F.out.1, F.out.2⟩
set_option maxHeartbeats 8000000 in
theorem tAg_14 (g : Nat) (f lo hi : Int) (an : ByteArray) (p : Pm18) (k v : ByteArray) (w : World) (hk : KF k 14) (hB : Blk w g 50 p.c) (hP : ∀ X, Turned (fun k => k = g) w X → PowT X) (hs : v.size ≤ 9223372036854775807) : Calls Tryd.prog 38 #[.pointer (some ⟨g, 0, none⟩), .agg #[.int .i64 f, .int .i64 lo, .int .i64 hi, .string an], .agg #[.string k, .string v]] w fun e w' => e = .returned (.tuple #[.string (agM 14 an p v).2.1, .bool (agM 14 an p v).2.2]) ∧ Turned (fun k => k = g) w w' ∧ Blk w' g 50 (agM 14 an p v).1.c := by
  have HK : Hid _ := hk
  have HP : Hid _ := hP
  clear hk hP
  have N1 := Blk.new' w 65 [.int .i64 f, .int .i64 lo, .int .i64 hi, .string an]
  have bn1 : Below w.heap.size w (w.alloc (.cells #[.int .i64 f, .int .i64 lo, .int .i64 hi, .string an] 65)) := (Below.refl _ _).alloc (Nat.le_refl _) _
  obtain ⟨w1, hw1⟩ : ∃ w1, w1 = w.alloc (.cells #[.int .i64 f, .int .i64 lo, .int .i64 hi, .string an] 65) := ⟨_, rfl⟩
  rw [← hw1] at N1 bn1
  have N2 := Blk.new' w1 59 [.string k, .string v]
  have bn2 : Below w1.heap.size w1 (w1.alloc (.cells #[.string k, .string v] 59)) := (Below.refl _ _).alloc (Nat.le_refl _) _
  obtain ⟨w2, hw2⟩ : ∃ w2, w2 = w1.alloc (.cells #[.string k, .string v] 59) := ⟨_, rfl⟩
  rw [← hw2] at N2 bn2
  obtain ⟨rb, hrb⟩ : ∃ g, g = w.heap.size := ⟨_, rfl⟩
  have hz1 : w1.heap.size = w.heap.size + 1 := by rw [hw1]; simp
  obtain ⟨pb, hpb⟩ : ∃ g, g = w.heap.size + 1 := ⟨_, rfl⟩
  rw [hz1, ← hpb] at N2
  rw [← hrb] at N1
  clear hz1
  have y0 := ck_at N2 0
  have y1 := ck_at N2 1
  simp only [List.getElem?_cons_zero, List.getElem?_cons_succ] at y0 y1
  have HN0 := tNumber_any v w2
  have hnb := nu_bd v.data.toList
  obtain ⟨n, hn⟩ : ∃ n, n = (nuR v.data.toList).1 := ⟨_, rfl⟩
  obtain ⟨E, hE⟩ : ∃ E, E = (nuR v.data.toList).2 := ⟨_, rfl⟩
  rw [← hn, ← hE] at HN0
  rw [← hn] at hnb
  have HN : Hid _ := HN0
  have HG : Hid (agM 14 an p v = (p, an, true)) := (rfl : agM 14 an p v = (p, an, true))
  rw [HG.out]
  simp only
  have HNB : Hid _ := hnb
  clear HG hn hE HN0 hnb
  have H2 : Hid _ := And.intro (below_then bn1 bn2) (And.intro N2 (And.intro hB (N1.laterB bn2)))
  clear bn1 bn2 N1 N2 hB
  go_enter Tryd.func38, Tryd.ntmps38
  go_upto_region 1 with fail
  rw [← hw1, ← hw2, ← hpb, ← hrb]
  clear hw1 hw2 hrb hpb
  go_wp2_with fail
  refine (Calls.mono HN.out) ?_
  rintro e w3 ⟨rfl, b3⟩
  clear HN y0 y1
  have P3 := H2.out.2.1.laterB b3
  have B3 := H2.out.2.2.1.laterB (below_then H2.out.1 b3)
  have R3 := H2.out.2.2.2.laterB b3
  have T3 : Turned (fun k => k = g) w w3 := (turned_below (below_then H2.out.1 b3)).mono (fun k h => h.elim)
  clear b3 H2
  have y0 := ck_at P3 0
  have y1 := ck_at P3 1
  simp only [List.getElem?_cons_zero, List.getElem?_cons_succ] at y0 y1
  go_upto_region 5 with fail
  have E0 : Hid _ := (HK.out 0 _ rfl)
  go_upto_region 7 with (refine wpList_value rfl (exec_eqS rfl rfl rfl (b := false) E0.out) ?_)
  clear E0
  have E1 : Hid _ := (HK.out 1 _ rfl)
  go_upto_region 9 with (refine wpList_value rfl (exec_eqS rfl rfl rfl (b := false) E1.out) ?_)
  clear E1
  have E2 : Hid _ := (HK.out 2 _ rfl)
  go_upto_region 11 with (refine wpList_value rfl (exec_eqS rfl rfl rfl (b := false) E2.out) ?_)
  clear E2
  have E3 : Hid _ := (HK.out 3 _ rfl)
  go_upto_region 12 with (refine wpList_value rfl (exec_eqS rfl rfl rfl (b := false) E3.out) ?_)
  clear E3
  have E4 : Hid _ := (HK.out 7 _ rfl)
  go_upto_region 14 with (refine wpList_value rfl (exec_eqS rfl rfl rfl (b := false) E4.out) ?_)
  clear E4
  have E5 : Hid _ := (HK.out 4 _ rfl)
  go_upto_region 16 with (refine wpList_value rfl (exec_eqS rfl rfl rfl (b := false) E5.out) ?_)
  clear E5
  have E6 : Hid _ := (HK.out 5 _ rfl)
  go_upto_region 18 with (refine wpList_value rfl (exec_eqS rfl rfl rfl (b := false) E6.out) ?_)
  clear E6
  have E7 : Hid _ := (HK.out 6 _ rfl)
  go_upto_region 20 with (refine wpList_value rfl (exec_eqS rfl rfl rfl (b := false) E7.out) ?_)
  clear E7
  have E8 : Hid _ := (HK.out 8 _ rfl)
  go_upto_region 23 with (refine wpList_value rfl (exec_eqS rfl rfl rfl (b := false) E8.out) ?_)
  clear E8
  have E9 : Hid _ := (HK.out 9 _ rfl)
  go_upto_region 26 with (refine wpList_value rfl (exec_eqS rfl rfl rfl (b := false) E9.out) ?_)
  clear E9
  have E10 : Hid _ := (HK.out 10 _ rfl)
  go_upto_region 29 with (refine wpList_value rfl (exec_eqS rfl rfl rfl (b := false) E10.out) ?_)
  clear E10
  have E11 : Hid _ := (HK.out 11 _ rfl)
  go_upto_region 32 with (refine wpList_value rfl (exec_eqS rfl rfl rfl (b := false) E11.out) ?_)
  clear E11
  have E12 : Hid _ := (HK.out 15 _ rfl)
  clear HK
  have x0 := ck_at R3 0
  have x1 := ck_at R3 1
  have x2 := ck_at R3 2
  have x3 := ck_at R3 3
  simp only [List.getElem?_cons_zero, List.getElem?_cons_succ] at x0 x1 x2 x3
  have F : Hid _ := And.intro T3 B3
  clear T3 B3 P3 R3
  go_wp2_with (refine wpList_value rfl (exec_eqS rfl rfl rfl (b := false) E12.out) ?_)
  refine bodyPost_ret (v := .tuple #[.string an, .bool true]) (by first | rfl | simp [results, Tryd.results38, go_sem]) rfl ?_
  exact ⟨rfl, F.out.1, F.out.2⟩
set_option maxHeartbeats 8000000 in
theorem tAg_15 (g : Nat) (f lo hi : Int) (an : ByteArray) (p : Pm18) (k v : ByteArray) (w : World) (hk : KF k 15) (hB : Blk w g 50 p.c) (hP : ∀ X, Turned (fun k => k = g) w X → PowT X) (hs : v.size ≤ 9223372036854775807) : Calls Tryd.prog 38 #[.pointer (some ⟨g, 0, none⟩), .agg #[.int .i64 f, .int .i64 lo, .int .i64 hi, .string an], .agg #[.string k, .string v]] w fun e w' => e = .returned (.tuple #[.string (agM 15 an p v).2.1, .bool (agM 15 an p v).2.2]) ∧ Turned (fun k => k = g) w w' ∧ Blk w' g 50 (agM 15 an p v).1.c := by
  have HK : Hid _ := hk
  have HP : Hid _ := hP
  clear hk hP
  have N1 := Blk.new' w 65 [.int .i64 f, .int .i64 lo, .int .i64 hi, .string an]
  have bn1 : Below w.heap.size w (w.alloc (.cells #[.int .i64 f, .int .i64 lo, .int .i64 hi, .string an] 65)) := (Below.refl _ _).alloc (Nat.le_refl _) _
  obtain ⟨w1, hw1⟩ : ∃ w1, w1 = w.alloc (.cells #[.int .i64 f, .int .i64 lo, .int .i64 hi, .string an] 65) := ⟨_, rfl⟩
  rw [← hw1] at N1 bn1
  have N2 := Blk.new' w1 59 [.string k, .string v]
  have bn2 : Below w1.heap.size w1 (w1.alloc (.cells #[.string k, .string v] 59)) := (Below.refl _ _).alloc (Nat.le_refl _) _
  obtain ⟨w2, hw2⟩ : ∃ w2, w2 = w1.alloc (.cells #[.string k, .string v] 59) := ⟨_, rfl⟩
  rw [← hw2] at N2 bn2
  obtain ⟨rb, hrb⟩ : ∃ g, g = w.heap.size := ⟨_, rfl⟩
  have hz1 : w1.heap.size = w.heap.size + 1 := by rw [hw1]; simp
  obtain ⟨pb, hpb⟩ : ∃ g, g = w.heap.size + 1 := ⟨_, rfl⟩
  rw [hz1, ← hpb] at N2
  rw [← hrb] at N1
  clear hz1
  have y0 := ck_at N2 0
  have y1 := ck_at N2 1
  simp only [List.getElem?_cons_zero, List.getElem?_cons_succ] at y0 y1
  have HN0 := tNumber_any v w2
  have hnb := nu_bd v.data.toList
  obtain ⟨n, hn⟩ : ∃ n, n = (nuR v.data.toList).1 := ⟨_, rfl⟩
  obtain ⟨E, hE⟩ : ∃ E, E = (nuR v.data.toList).2 := ⟨_, rfl⟩
  rw [← hn, ← hE] at HN0
  rw [← hn] at hnb
  have HN : Hid _ := HN0
  have HG : Hid (agM 15 an p v = (p, digS (max n 2), true)) := (by unfold agM; simp only [← hn] : agM 15 an p v = (p, digS (max n 2), true))
  rw [HG.out]
  simp only
  have HNB : Hid _ := hnb
  clear HG hn hE HN0 hnb
  obtain ⟨m, hm⟩ : ∃ m, m = max n 2 := ⟨_, rfl⟩
  rw [← hm]
  have HM : Hid _ := hm
  clear hm
  have H2 : Hid _ := And.intro (below_then bn1 bn2) (And.intro N2 (And.intro hB (N1.laterB bn2)))
  clear bn1 bn2 N1 N2 hB
  go_enter Tryd.func38, Tryd.ntmps38
  go_upto_region 1 with fail
  rw [← hw1, ← hw2, ← hpb, ← hrb]
  clear hw1 hw2 hrb hpb
  go_wp2_with fail
  refine (Calls.mono HN.out) ?_
  rintro e w3 ⟨rfl, b3⟩
  clear HN y0 y1
  have P3 := H2.out.2.1.laterB b3
  have B3 := H2.out.2.2.1.laterB (below_then H2.out.1 b3)
  have R3 := H2.out.2.2.2.laterB b3
  have T3 : Turned (fun k => k = g) w w3 := (turned_below (below_then H2.out.1 b3)).mono (fun k h => h.elim)
  clear b3 H2
  have y0 := ck_at P3 0
  have y1 := ck_at P3 1
  simp only [List.getElem?_cons_zero, List.getElem?_cons_succ] at y0 y1
  go_upto_region 5 with fail
  have E0 : Hid _ := (HK.out 0 _ rfl)
  go_upto_region 7 with (refine wpList_value rfl (exec_eqS rfl rfl rfl (b := false) E0.out) ?_)
  clear E0
  have E1 : Hid _ := (HK.out 1 _ rfl)
  go_upto_region 9 with (refine wpList_value rfl (exec_eqS rfl rfl rfl (b := false) E1.out) ?_)
  clear E1
  have E2 : Hid _ := (HK.out 2 _ rfl)
  go_upto_region 11 with (refine wpList_value rfl (exec_eqS rfl rfl rfl (b := false) E2.out) ?_)
  clear E2
  have E3 : Hid _ := (HK.out 3 _ rfl)
  go_upto_region 12 with (refine wpList_value rfl (exec_eqS rfl rfl rfl (b := false) E3.out) ?_)
  clear E3
  have E4 : Hid _ := (HK.out 7 _ rfl)
  go_upto_region 14 with (refine wpList_value rfl (exec_eqS rfl rfl rfl (b := false) E4.out) ?_)
  clear E4
  have E5 : Hid _ := (HK.out 4 _ rfl)
  go_upto_region 16 with (refine wpList_value rfl (exec_eqS rfl rfl rfl (b := false) E5.out) ?_)
  clear E5
  have E6 : Hid _ := (HK.out 5 _ rfl)
  go_upto_region 18 with (refine wpList_value rfl (exec_eqS rfl rfl rfl (b := false) E6.out) ?_)
  clear E6
  have E7 : Hid _ := (HK.out 6 _ rfl)
  go_upto_region 20 with (refine wpList_value rfl (exec_eqS rfl rfl rfl (b := false) E7.out) ?_)
  clear E7
  have E8 : Hid _ := (HK.out 8 _ rfl)
  go_upto_region 23 with (refine wpList_value rfl (exec_eqS rfl rfl rfl (b := false) E8.out) ?_)
  clear E8
  have E9 : Hid _ := (HK.out 9 _ rfl)
  go_upto_region 26 with (refine wpList_value rfl (exec_eqS rfl rfl rfl (b := false) E9.out) ?_)
  clear E9
  have E10 : Hid _ := (HK.out 10 _ rfl)
  go_upto_region 29 with (refine wpList_value rfl (exec_eqS rfl rfl rfl (b := false) E10.out) ?_)
  clear E10
  have E11 : Hid _ := (HK.out 11 _ rfl)
  go_upto_region 32 with (refine wpList_value rfl (exec_eqS rfl rfl rfl (b := false) E11.out) ?_)
  clear E11
  have E12 : Hid _ := (HK.out 15 _ rfl)
  clear HK
  have HD0 := tDigits_any (max n 2) w3 (HP.out _ T3)
  rw [← HM.out] at HD0
  have HD : Hid _ := HD0
  have F : Hid _ := And.intro T3 B3
  clear HD0 HP T3 B3 P3 R3
  go_wp2_with (refine wpList_value rfl (exec_eqS rfl rfl rfl (b := true) E12.out) ?_)
  rw [← HM.out]
  refine (Calls.mono HD.out) ?_
  rintro e w5 ⟨rfl, b5⟩
  clear HD
  have F2 : Hid _ := And.intro (F.out.1.trans ((turned_below b5).mono (fun k h => h.elim))) (F.out.2.laterB b5)
  clear b5 F y0 y1
  go_wp2
  refine bodyPost_ret (v := .tuple #[.string ⟨(dgT m).toArray⟩, .bool true]) (by first | rfl | simp [results, Tryd.results38, go_sem]) rfl ?_
  exact ⟨rfl, F2.out.1, F2.out.2⟩
set_option maxHeartbeats 8000000 in
theorem tAg_16 (g : Nat) (f lo hi : Int) (an : ByteArray) (p : Pm18) (k v : ByteArray) (w : World) (hk : KF k 16) (hB : Blk w g 50 p.c) (hP : ∀ X, Turned (fun k => k = g) w X → PowT X) (hs : v.size ≤ 9223372036854775807) : Calls Tryd.prog 38 #[.pointer (some ⟨g, 0, none⟩), .agg #[.int .i64 f, .int .i64 lo, .int .i64 hi, .string an], .agg #[.string k, .string v]] w fun e w' => e = .returned (.tuple #[.string (agM 16 an p v).2.1, .bool (agM 16 an p v).2.2]) ∧ Turned (fun k => k = g) w w' ∧ Blk w' g 50 (agM 16 an p v).1.c := by
  have HK : Hid _ := hk
  have HP : Hid _ := hP
  clear hk hP
  have N1 := Blk.new' w 65 [.int .i64 f, .int .i64 lo, .int .i64 hi, .string an]
  have bn1 : Below w.heap.size w (w.alloc (.cells #[.int .i64 f, .int .i64 lo, .int .i64 hi, .string an] 65)) := (Below.refl _ _).alloc (Nat.le_refl _) _
  obtain ⟨w1, hw1⟩ : ∃ w1, w1 = w.alloc (.cells #[.int .i64 f, .int .i64 lo, .int .i64 hi, .string an] 65) := ⟨_, rfl⟩
  rw [← hw1] at N1 bn1
  have N2 := Blk.new' w1 59 [.string k, .string v]
  have bn2 : Below w1.heap.size w1 (w1.alloc (.cells #[.string k, .string v] 59)) := (Below.refl _ _).alloc (Nat.le_refl _) _
  obtain ⟨w2, hw2⟩ : ∃ w2, w2 = w1.alloc (.cells #[.string k, .string v] 59) := ⟨_, rfl⟩
  rw [← hw2] at N2 bn2
  obtain ⟨rb, hrb⟩ : ∃ g, g = w.heap.size := ⟨_, rfl⟩
  have hz1 : w1.heap.size = w.heap.size + 1 := by rw [hw1]; simp
  obtain ⟨pb, hpb⟩ : ∃ g, g = w.heap.size + 1 := ⟨_, rfl⟩
  rw [hz1, ← hpb] at N2
  rw [← hrb] at N1
  clear hz1
  have y0 := ck_at N2 0
  have y1 := ck_at N2 1
  simp only [List.getElem?_cons_zero, List.getElem?_cons_succ] at y0 y1
  have HN0 := tNumber_any v w2
  have hnb := nu_bd v.data.toList
  obtain ⟨n, hn⟩ : ∃ n, n = (nuR v.data.toList).1 := ⟨_, rfl⟩
  obtain ⟨E, hE⟩ : ∃ E, E = (nuR v.data.toList).2 := ⟨_, rfl⟩
  rw [← hn, ← hE] at HN0
  rw [← hn] at hnb
  have HN : Hid _ := HN0
  have HG : Hid (agM 16 an p v = (p, an, true)) := (rfl : agM 16 an p v = (p, an, true))
  rw [HG.out]
  simp only
  have HNB : Hid _ := hnb
  clear HG hn hE HN0 hnb
  have H2 : Hid _ := And.intro (below_then bn1 bn2) (And.intro N2 (And.intro hB (N1.laterB bn2)))
  clear bn1 bn2 N1 N2 hB
  go_enter Tryd.func38, Tryd.ntmps38
  go_upto_region 1 with fail
  rw [← hw1, ← hw2, ← hpb, ← hrb]
  clear hw1 hw2 hrb hpb
  go_wp2_with fail
  refine (Calls.mono HN.out) ?_
  rintro e w3 ⟨rfl, b3⟩
  clear HN y0 y1
  have P3 := H2.out.2.1.laterB b3
  have B3 := H2.out.2.2.1.laterB (below_then H2.out.1 b3)
  have R3 := H2.out.2.2.2.laterB b3
  have T3 : Turned (fun k => k = g) w w3 := (turned_below (below_then H2.out.1 b3)).mono (fun k h => h.elim)
  clear b3 H2
  have y0 := ck_at P3 0
  have y1 := ck_at P3 1
  simp only [List.getElem?_cons_zero, List.getElem?_cons_succ] at y0 y1
  go_upto_region 5 with fail
  have E0 : Hid _ := (HK.out 0 _ rfl)
  go_upto_region 7 with (refine wpList_value rfl (exec_eqS rfl rfl rfl (b := false) E0.out) ?_)
  clear E0
  have E1 : Hid _ := (HK.out 1 _ rfl)
  go_upto_region 9 with (refine wpList_value rfl (exec_eqS rfl rfl rfl (b := false) E1.out) ?_)
  clear E1
  have E2 : Hid _ := (HK.out 2 _ rfl)
  go_upto_region 11 with (refine wpList_value rfl (exec_eqS rfl rfl rfl (b := false) E2.out) ?_)
  clear E2
  have E3 : Hid _ := (HK.out 3 _ rfl)
  go_upto_region 12 with (refine wpList_value rfl (exec_eqS rfl rfl rfl (b := false) E3.out) ?_)
  clear E3
  have E4 : Hid _ := (HK.out 7 _ rfl)
  go_upto_region 14 with (refine wpList_value rfl (exec_eqS rfl rfl rfl (b := false) E4.out) ?_)
  clear E4
  have E5 : Hid _ := (HK.out 4 _ rfl)
  go_upto_region 16 with (refine wpList_value rfl (exec_eqS rfl rfl rfl (b := false) E5.out) ?_)
  clear E5
  have E6 : Hid _ := (HK.out 5 _ rfl)
  go_upto_region 18 with (refine wpList_value rfl (exec_eqS rfl rfl rfl (b := false) E6.out) ?_)
  clear E6
  have E7 : Hid _ := (HK.out 6 _ rfl)
  go_upto_region 20 with (refine wpList_value rfl (exec_eqS rfl rfl rfl (b := false) E7.out) ?_)
  clear E7
  have E8 : Hid _ := (HK.out 8 _ rfl)
  go_upto_region 23 with (refine wpList_value rfl (exec_eqS rfl rfl rfl (b := false) E8.out) ?_)
  clear E8
  have E9 : Hid _ := (HK.out 9 _ rfl)
  go_upto_region 26 with (refine wpList_value rfl (exec_eqS rfl rfl rfl (b := false) E9.out) ?_)
  clear E9
  have E10 : Hid _ := (HK.out 10 _ rfl)
  go_upto_region 29 with (refine wpList_value rfl (exec_eqS rfl rfl rfl (b := false) E10.out) ?_)
  clear E10
  have E11 : Hid _ := (HK.out 11 _ rfl)
  go_upto_region 32 with (refine wpList_value rfl (exec_eqS rfl rfl rfl (b := false) E11.out) ?_)
  clear E11
  have E12 : Hid _ := (HK.out 15 _ rfl)
  clear HK
  have x0 := ck_at R3 0
  have x1 := ck_at R3 1
  have x2 := ck_at R3 2
  have x3 := ck_at R3 3
  simp only [List.getElem?_cons_zero, List.getElem?_cons_succ] at x0 x1 x2 x3
  have F : Hid _ := And.intro T3 B3
  clear T3 B3 P3 R3
  go_wp2_with (refine wpList_value rfl (exec_eqS rfl rfl rfl (b := false) E12.out) ?_)
  refine bodyPost_ret (v := .tuple #[.string an, .bool true]) (by first | rfl | simp [results, Tryd.results38, go_sem]) rfl ?_
  exact ⟨rfl, F.out.1, F.out.2⟩
set_option maxHeartbeats 8000000 in
theorem tAg_17 (g : Nat) (f lo hi : Int) (an : ByteArray) (p : Pm18) (k v : ByteArray) (w : World) (hk : KF k 17) (hB : Blk w g 50 p.c) (hP : ∀ X, Turned (fun k => k = g) w X → PowT X) (hs : v.size ≤ 9223372036854775807) : Calls Tryd.prog 38 #[.pointer (some ⟨g, 0, none⟩), .agg #[.int .i64 f, .int .i64 lo, .int .i64 hi, .string an], .agg #[.string k, .string v]] w fun e w' => e = .returned (.tuple #[.string (agM 17 an p v).2.1, .bool (agM 17 an p v).2.2]) ∧ Turned (fun k => k = g) w w' ∧ Blk w' g 50 (agM 17 an p v).1.c := by
  have HK : Hid _ := hk
  have HP : Hid _ := hP
  clear hk hP
  have N1 := Blk.new' w 65 [.int .i64 f, .int .i64 lo, .int .i64 hi, .string an]
  have bn1 : Below w.heap.size w (w.alloc (.cells #[.int .i64 f, .int .i64 lo, .int .i64 hi, .string an] 65)) := (Below.refl _ _).alloc (Nat.le_refl _) _
  obtain ⟨w1, hw1⟩ : ∃ w1, w1 = w.alloc (.cells #[.int .i64 f, .int .i64 lo, .int .i64 hi, .string an] 65) := ⟨_, rfl⟩
  rw [← hw1] at N1 bn1
  have N2 := Blk.new' w1 59 [.string k, .string v]
  have bn2 : Below w1.heap.size w1 (w1.alloc (.cells #[.string k, .string v] 59)) := (Below.refl _ _).alloc (Nat.le_refl _) _
  obtain ⟨w2, hw2⟩ : ∃ w2, w2 = w1.alloc (.cells #[.string k, .string v] 59) := ⟨_, rfl⟩
  rw [← hw2] at N2 bn2
  obtain ⟨rb, hrb⟩ : ∃ g, g = w.heap.size := ⟨_, rfl⟩
  have hz1 : w1.heap.size = w.heap.size + 1 := by rw [hw1]; simp
  obtain ⟨pb, hpb⟩ : ∃ g, g = w.heap.size + 1 := ⟨_, rfl⟩
  rw [hz1, ← hpb] at N2
  rw [← hrb] at N1
  clear hz1
  have y0 := ck_at N2 0
  have y1 := ck_at N2 1
  simp only [List.getElem?_cons_zero, List.getElem?_cons_succ] at y0 y1
  have HN0 := tNumber_any v w2
  have hnb := nu_bd v.data.toList
  obtain ⟨n, hn⟩ : ∃ n, n = (nuR v.data.toList).1 := ⟨_, rfl⟩
  obtain ⟨E, hE⟩ : ∃ E, E = (nuR v.data.toList).2 := ⟨_, rfl⟩
  rw [← hn, ← hE] at HN0
  rw [← hn] at hnb
  have HN : Hid _ := HN0
  have HG : Hid (agM 17 an p v = (p, an, true)) := (rfl : agM 17 an p v = (p, an, true))
  rw [HG.out]
  simp only
  have HNB : Hid _ := hnb
  clear HG hn hE HN0 hnb
  have H2 : Hid _ := And.intro (below_then bn1 bn2) (And.intro N2 (And.intro hB (N1.laterB bn2)))
  clear bn1 bn2 N1 N2 hB
  go_enter Tryd.func38, Tryd.ntmps38
  go_upto_region 1 with fail
  rw [← hw1, ← hw2, ← hpb, ← hrb]
  clear hw1 hw2 hrb hpb
  go_wp2_with fail
  refine (Calls.mono HN.out) ?_
  rintro e w3 ⟨rfl, b3⟩
  clear HN y0 y1
  have P3 := H2.out.2.1.laterB b3
  have B3 := H2.out.2.2.1.laterB (below_then H2.out.1 b3)
  have R3 := H2.out.2.2.2.laterB b3
  have T3 : Turned (fun k => k = g) w w3 := (turned_below (below_then H2.out.1 b3)).mono (fun k h => h.elim)
  clear b3 H2
  have y0 := ck_at P3 0
  have y1 := ck_at P3 1
  simp only [List.getElem?_cons_zero, List.getElem?_cons_succ] at y0 y1
  go_upto_region 5 with fail
  have E0 : Hid _ := (HK.out 0 _ rfl)
  go_upto_region 7 with (refine wpList_value rfl (exec_eqS rfl rfl rfl (b := false) E0.out) ?_)
  clear E0
  have E1 : Hid _ := (HK.out 1 _ rfl)
  go_upto_region 9 with (refine wpList_value rfl (exec_eqS rfl rfl rfl (b := false) E1.out) ?_)
  clear E1
  have E2 : Hid _ := (HK.out 2 _ rfl)
  go_upto_region 11 with (refine wpList_value rfl (exec_eqS rfl rfl rfl (b := false) E2.out) ?_)
  clear E2
  have E3 : Hid _ := (HK.out 3 _ rfl)
  go_upto_region 12 with (refine wpList_value rfl (exec_eqS rfl rfl rfl (b := false) E3.out) ?_)
  clear E3
  have E4 : Hid _ := (HK.out 7 _ rfl)
  go_upto_region 14 with (refine wpList_value rfl (exec_eqS rfl rfl rfl (b := false) E4.out) ?_)
  clear E4
  have E5 : Hid _ := (HK.out 4 _ rfl)
  go_upto_region 16 with (refine wpList_value rfl (exec_eqS rfl rfl rfl (b := false) E5.out) ?_)
  clear E5
  have E6 : Hid _ := (HK.out 5 _ rfl)
  go_upto_region 18 with (refine wpList_value rfl (exec_eqS rfl rfl rfl (b := false) E6.out) ?_)
  clear E6
  have E7 : Hid _ := (HK.out 6 _ rfl)
  go_upto_region 20 with (refine wpList_value rfl (exec_eqS rfl rfl rfl (b := false) E7.out) ?_)
  clear E7
  have E8 : Hid _ := (HK.out 8 _ rfl)
  go_upto_region 23 with (refine wpList_value rfl (exec_eqS rfl rfl rfl (b := false) E8.out) ?_)
  clear E8
  have E9 : Hid _ := (HK.out 9 _ rfl)
  go_upto_region 26 with (refine wpList_value rfl (exec_eqS rfl rfl rfl (b := false) E9.out) ?_)
  clear E9
  have E10 : Hid _ := (HK.out 10 _ rfl)
  go_upto_region 29 with (refine wpList_value rfl (exec_eqS rfl rfl rfl (b := false) E10.out) ?_)
  clear E10
  have E11 : Hid _ := (HK.out 11 _ rfl)
  go_upto_region 32 with (refine wpList_value rfl (exec_eqS rfl rfl rfl (b := false) E11.out) ?_)
  clear E11
  have E12 : Hid _ := (HK.out 15 _ rfl)
  clear HK
  have x0 := ck_at R3 0
  have x1 := ck_at R3 1
  have x2 := ck_at R3 2
  have x3 := ck_at R3 3
  simp only [List.getElem?_cons_zero, List.getElem?_cons_succ] at x0 x1 x2 x3
  have F : Hid _ := And.intro T3 B3
  clear T3 B3 P3 R3
  go_wp2_with (refine wpList_value rfl (exec_eqS rfl rfl rfl (b := false) E12.out) ?_)
  refine bodyPost_ret (v := .tuple #[.string an, .bool true]) (by first | rfl | simp [results, Tryd.results38, go_sem]) rfl ?_
  exact ⟨rfl, F.out.1, F.out.2⟩
set_option maxHeartbeats 8000000 in
theorem tAg_18 (g : Nat) (f lo hi : Int) (an : ByteArray) (p : Pm18) (k v : ByteArray) (w : World) (hk : KF k 18) (hB : Blk w g 50 p.c) (hP : ∀ X, Turned (fun k => k = g) w X → PowT X) (hs : v.size ≤ 9223372036854775807) : Calls Tryd.prog 38 #[.pointer (some ⟨g, 0, none⟩), .agg #[.int .i64 f, .int .i64 lo, .int .i64 hi, .string an], .agg #[.string k, .string v]] w fun e w' => e = .returned (.tuple #[.string (agM 18 an p v).2.1, .bool (agM 18 an p v).2.2]) ∧ Turned (fun k => k = g) w w' ∧ Blk w' g 50 (agM 18 an p v).1.c := by
  have HK : Hid _ := hk
  have HP : Hid _ := hP
  clear hk hP
  have N1 := Blk.new' w 65 [.int .i64 f, .int .i64 lo, .int .i64 hi, .string an]
  have bn1 : Below w.heap.size w (w.alloc (.cells #[.int .i64 f, .int .i64 lo, .int .i64 hi, .string an] 65)) := (Below.refl _ _).alloc (Nat.le_refl _) _
  obtain ⟨w1, hw1⟩ : ∃ w1, w1 = w.alloc (.cells #[.int .i64 f, .int .i64 lo, .int .i64 hi, .string an] 65) := ⟨_, rfl⟩
  rw [← hw1] at N1 bn1
  have N2 := Blk.new' w1 59 [.string k, .string v]
  have bn2 : Below w1.heap.size w1 (w1.alloc (.cells #[.string k, .string v] 59)) := (Below.refl _ _).alloc (Nat.le_refl _) _
  obtain ⟨w2, hw2⟩ : ∃ w2, w2 = w1.alloc (.cells #[.string k, .string v] 59) := ⟨_, rfl⟩
  rw [← hw2] at N2 bn2
  obtain ⟨rb, hrb⟩ : ∃ g, g = w.heap.size := ⟨_, rfl⟩
  have hz1 : w1.heap.size = w.heap.size + 1 := by rw [hw1]; simp
  obtain ⟨pb, hpb⟩ : ∃ g, g = w.heap.size + 1 := ⟨_, rfl⟩
  rw [hz1, ← hpb] at N2
  rw [← hrb] at N1
  clear hz1
  have y0 := ck_at N2 0
  have y1 := ck_at N2 1
  simp only [List.getElem?_cons_zero, List.getElem?_cons_succ] at y0 y1
  have HN0 := tNumber_any v w2
  have hnb := nu_bd v.data.toList
  obtain ⟨n, hn⟩ : ∃ n, n = (nuR v.data.toList).1 := ⟨_, rfl⟩
  obtain ⟨E, hE⟩ : ∃ E, E = (nuR v.data.toList).2 := ⟨_, rfl⟩
  rw [← hn, ← hE] at HN0
  rw [← hn] at hnb
  have HN : Hid _ := HN0
  have HG : Hid (agM 18 an p v = (p, an, true)) := (rfl : agM 18 an p v = (p, an, true))
  rw [HG.out]
  simp only
  have HNB : Hid _ := hnb
  clear HG hn hE HN0 hnb
  have H2 : Hid _ := And.intro (below_then bn1 bn2) (And.intro N2 (And.intro hB (N1.laterB bn2)))
  clear bn1 bn2 N1 N2 hB
  go_enter Tryd.func38, Tryd.ntmps38
  go_upto_region 1 with fail
  rw [← hw1, ← hw2, ← hpb, ← hrb]
  clear hw1 hw2 hrb hpb
  go_wp2_with fail
  refine (Calls.mono HN.out) ?_
  rintro e w3 ⟨rfl, b3⟩
  clear HN y0 y1
  have P3 := H2.out.2.1.laterB b3
  have B3 := H2.out.2.2.1.laterB (below_then H2.out.1 b3)
  have R3 := H2.out.2.2.2.laterB b3
  have T3 : Turned (fun k => k = g) w w3 := (turned_below (below_then H2.out.1 b3)).mono (fun k h => h.elim)
  clear b3 H2
  have y0 := ck_at P3 0
  have y1 := ck_at P3 1
  simp only [List.getElem?_cons_zero, List.getElem?_cons_succ] at y0 y1
  go_upto_region 5 with fail
  have E0 : Hid _ := (HK.out 0 _ rfl)
  go_upto_region 7 with (refine wpList_value rfl (exec_eqS rfl rfl rfl (b := false) E0.out) ?_)
  clear E0
  have E1 : Hid _ := (HK.out 1 _ rfl)
  go_upto_region 9 with (refine wpList_value rfl (exec_eqS rfl rfl rfl (b := false) E1.out) ?_)
  clear E1
  have E2 : Hid _ := (HK.out 2 _ rfl)
  go_upto_region 11 with (refine wpList_value rfl (exec_eqS rfl rfl rfl (b := false) E2.out) ?_)
  clear E2
  have E3 : Hid _ := (HK.out 3 _ rfl)
  go_upto_region 12 with (refine wpList_value rfl (exec_eqS rfl rfl rfl (b := false) E3.out) ?_)
  clear E3
  have E4 : Hid _ := (HK.out 7 _ rfl)
  go_upto_region 14 with (refine wpList_value rfl (exec_eqS rfl rfl rfl (b := false) E4.out) ?_)
  clear E4
  have E5 : Hid _ := (HK.out 4 _ rfl)
  go_upto_region 16 with (refine wpList_value rfl (exec_eqS rfl rfl rfl (b := false) E5.out) ?_)
  clear E5
  have E6 : Hid _ := (HK.out 5 _ rfl)
  go_upto_region 18 with (refine wpList_value rfl (exec_eqS rfl rfl rfl (b := false) E6.out) ?_)
  clear E6
  have E7 : Hid _ := (HK.out 6 _ rfl)
  go_upto_region 20 with (refine wpList_value rfl (exec_eqS rfl rfl rfl (b := false) E7.out) ?_)
  clear E7
  have E8 : Hid _ := (HK.out 8 _ rfl)
  go_upto_region 23 with (refine wpList_value rfl (exec_eqS rfl rfl rfl (b := false) E8.out) ?_)
  clear E8
  have E9 : Hid _ := (HK.out 9 _ rfl)
  go_upto_region 26 with (refine wpList_value rfl (exec_eqS rfl rfl rfl (b := false) E9.out) ?_)
  clear E9
  have E10 : Hid _ := (HK.out 10 _ rfl)
  go_upto_region 29 with (refine wpList_value rfl (exec_eqS rfl rfl rfl (b := false) E10.out) ?_)
  clear E10
  have E11 : Hid _ := (HK.out 11 _ rfl)
  go_upto_region 32 with (refine wpList_value rfl (exec_eqS rfl rfl rfl (b := false) E11.out) ?_)
  clear E11
  have E12 : Hid _ := (HK.out 15 _ rfl)
  clear HK
  have x0 := ck_at R3 0
  have x1 := ck_at R3 1
  have x2 := ck_at R3 2
  have x3 := ck_at R3 3
  simp only [List.getElem?_cons_zero, List.getElem?_cons_succ] at x0 x1 x2 x3
  have F : Hid _ := And.intro T3 B3
  clear T3 B3 P3 R3
  go_wp2_with (refine wpList_value rfl (exec_eqS rfl rfl rfl (b := false) E12.out) ?_)
  refine bodyPost_ret (v := .tuple #[.string an, .bool true]) (by first | rfl | simp [results, Tryd.results38, go_sem]) rfl ?_
  exact ⟨rfl, F.out.1, F.out.2⟩
set_option maxHeartbeats 8000000 in
theorem tAg_19 (g : Nat) (f lo hi : Int) (an : ByteArray) (p : Pm18) (k v : ByteArray) (w : World) (hk : KF k 19) (hB : Blk w g 50 p.c) (hP : ∀ X, Turned (fun k => k = g) w X → PowT X) (hs : v.size ≤ 9223372036854775807) : Calls Tryd.prog 38 #[.pointer (some ⟨g, 0, none⟩), .agg #[.int .i64 f, .int .i64 lo, .int .i64 hi, .string an], .agg #[.string k, .string v]] w fun e w' => e = .returned (.tuple #[.string (agM 19 an p v).2.1, .bool (agM 19 an p v).2.2]) ∧ Turned (fun k => k = g) w w' ∧ Blk w' g 50 (agM 19 an p v).1.c := by
  have HK : Hid _ := hk
  have HP : Hid _ := hP
  clear hk hP
  have N1 := Blk.new' w 65 [.int .i64 f, .int .i64 lo, .int .i64 hi, .string an]
  have bn1 : Below w.heap.size w (w.alloc (.cells #[.int .i64 f, .int .i64 lo, .int .i64 hi, .string an] 65)) := (Below.refl _ _).alloc (Nat.le_refl _) _
  obtain ⟨w1, hw1⟩ : ∃ w1, w1 = w.alloc (.cells #[.int .i64 f, .int .i64 lo, .int .i64 hi, .string an] 65) := ⟨_, rfl⟩
  rw [← hw1] at N1 bn1
  have N2 := Blk.new' w1 59 [.string k, .string v]
  have bn2 : Below w1.heap.size w1 (w1.alloc (.cells #[.string k, .string v] 59)) := (Below.refl _ _).alloc (Nat.le_refl _) _
  obtain ⟨w2, hw2⟩ : ∃ w2, w2 = w1.alloc (.cells #[.string k, .string v] 59) := ⟨_, rfl⟩
  rw [← hw2] at N2 bn2
  obtain ⟨rb, hrb⟩ : ∃ g, g = w.heap.size := ⟨_, rfl⟩
  have hz1 : w1.heap.size = w.heap.size + 1 := by rw [hw1]; simp
  obtain ⟨pb, hpb⟩ : ∃ g, g = w.heap.size + 1 := ⟨_, rfl⟩
  rw [hz1, ← hpb] at N2
  rw [← hrb] at N1
  clear hz1
  have y0 := ck_at N2 0
  have y1 := ck_at N2 1
  simp only [List.getElem?_cons_zero, List.getElem?_cons_succ] at y0 y1
  have HN0 := tNumber_any v w2
  have hnb := nu_bd v.data.toList
  obtain ⟨n, hn⟩ : ∃ n, n = (nuR v.data.toList).1 := ⟨_, rfl⟩
  obtain ⟨E, hE⟩ : ∃ E, E = (nuR v.data.toList).2 := ⟨_, rfl⟩
  rw [← hn, ← hE] at HN0
  rw [← hn] at hnb
  have HN : Hid _ := HN0
  have HG : Hid (agM 19 an p v = (p, an, true)) := (rfl : agM 19 an p v = (p, an, true))
  rw [HG.out]
  simp only
  have HNB : Hid _ := hnb
  clear HG hn hE HN0 hnb
  have H2 : Hid _ := And.intro (below_then bn1 bn2) (And.intro N2 (And.intro hB (N1.laterB bn2)))
  clear bn1 bn2 N1 N2 hB
  go_enter Tryd.func38, Tryd.ntmps38
  go_upto_region 1 with fail
  rw [← hw1, ← hw2, ← hpb, ← hrb]
  clear hw1 hw2 hrb hpb
  go_wp2_with fail
  refine (Calls.mono HN.out) ?_
  rintro e w3 ⟨rfl, b3⟩
  clear HN y0 y1
  have P3 := H2.out.2.1.laterB b3
  have B3 := H2.out.2.2.1.laterB (below_then H2.out.1 b3)
  have R3 := H2.out.2.2.2.laterB b3
  have T3 : Turned (fun k => k = g) w w3 := (turned_below (below_then H2.out.1 b3)).mono (fun k h => h.elim)
  clear b3 H2
  have y0 := ck_at P3 0
  have y1 := ck_at P3 1
  simp only [List.getElem?_cons_zero, List.getElem?_cons_succ] at y0 y1
  go_upto_region 5 with fail
  have E0 : Hid _ := (HK.out 0 _ rfl)
  go_upto_region 7 with (refine wpList_value rfl (exec_eqS rfl rfl rfl (b := false) E0.out) ?_)
  clear E0
  have E1 : Hid _ := (HK.out 1 _ rfl)
  go_upto_region 9 with (refine wpList_value rfl (exec_eqS rfl rfl rfl (b := false) E1.out) ?_)
  clear E1
  have E2 : Hid _ := (HK.out 2 _ rfl)
  go_upto_region 11 with (refine wpList_value rfl (exec_eqS rfl rfl rfl (b := false) E2.out) ?_)
  clear E2
  have E3 : Hid _ := (HK.out 3 _ rfl)
  go_upto_region 12 with (refine wpList_value rfl (exec_eqS rfl rfl rfl (b := false) E3.out) ?_)
  clear E3
  have E4 : Hid _ := (HK.out 7 _ rfl)
  go_upto_region 14 with (refine wpList_value rfl (exec_eqS rfl rfl rfl (b := false) E4.out) ?_)
  clear E4
  have E5 : Hid _ := (HK.out 4 _ rfl)
  go_upto_region 16 with (refine wpList_value rfl (exec_eqS rfl rfl rfl (b := false) E5.out) ?_)
  clear E5
  have E6 : Hid _ := (HK.out 5 _ rfl)
  go_upto_region 18 with (refine wpList_value rfl (exec_eqS rfl rfl rfl (b := false) E6.out) ?_)
  clear E6
  have E7 : Hid _ := (HK.out 6 _ rfl)
  go_upto_region 20 with (refine wpList_value rfl (exec_eqS rfl rfl rfl (b := false) E7.out) ?_)
  clear E7
  have E8 : Hid _ := (HK.out 8 _ rfl)
  go_upto_region 23 with (refine wpList_value rfl (exec_eqS rfl rfl rfl (b := false) E8.out) ?_)
  clear E8
  have E9 : Hid _ := (HK.out 9 _ rfl)
  go_upto_region 26 with (refine wpList_value rfl (exec_eqS rfl rfl rfl (b := false) E9.out) ?_)
  clear E9
  have E10 : Hid _ := (HK.out 10 _ rfl)
  go_upto_region 29 with (refine wpList_value rfl (exec_eqS rfl rfl rfl (b := false) E10.out) ?_)
  clear E10
  have E11 : Hid _ := (HK.out 11 _ rfl)
  go_upto_region 32 with (refine wpList_value rfl (exec_eqS rfl rfl rfl (b := false) E11.out) ?_)
  clear E11
  have E12 : Hid _ := (HK.out 15 _ rfl)
  clear HK
  have x0 := ck_at R3 0
  have x1 := ck_at R3 1
  have x2 := ck_at R3 2
  have x3 := ck_at R3 3
  simp only [List.getElem?_cons_zero, List.getElem?_cons_succ] at x0 x1 x2 x3
  have F : Hid _ := And.intro T3 B3
  clear T3 B3 P3 R3
  go_wp2_with (refine wpList_value rfl (exec_eqS rfl rfl rfl (b := false) E12.out) ?_)
  refine bodyPost_ret (v := .tuple #[.string an, .bool true]) (by first | rfl | simp [results, Tryd.results38, go_sem]) rfl ?_
  exact ⟨rfl, F.out.1, F.out.2⟩
set_option maxHeartbeats 8000000 in
theorem tAg_20 (g : Nat) (f lo hi : Int) (an : ByteArray) (p : Pm18) (k v : ByteArray) (w : World) (hk : KF k 20) (hB : Blk w g 50 p.c) (hP : ∀ X, Turned (fun k => k = g) w X → PowT X) (hs : v.size ≤ 9223372036854775807) : Calls Tryd.prog 38 #[.pointer (some ⟨g, 0, none⟩), .agg #[.int .i64 f, .int .i64 lo, .int .i64 hi, .string an], .agg #[.string k, .string v]] w fun e w' => e = .returned (.tuple #[.string (agM 20 an p v).2.1, .bool (agM 20 an p v).2.2]) ∧ Turned (fun k => k = g) w w' ∧ Blk w' g 50 (agM 20 an p v).1.c := by
  have HK : Hid _ := hk
  have HP : Hid _ := hP
  clear hk hP
  have N1 := Blk.new' w 65 [.int .i64 f, .int .i64 lo, .int .i64 hi, .string an]
  have bn1 : Below w.heap.size w (w.alloc (.cells #[.int .i64 f, .int .i64 lo, .int .i64 hi, .string an] 65)) := (Below.refl _ _).alloc (Nat.le_refl _) _
  obtain ⟨w1, hw1⟩ : ∃ w1, w1 = w.alloc (.cells #[.int .i64 f, .int .i64 lo, .int .i64 hi, .string an] 65) := ⟨_, rfl⟩
  rw [← hw1] at N1 bn1
  have N2 := Blk.new' w1 59 [.string k, .string v]
  have bn2 : Below w1.heap.size w1 (w1.alloc (.cells #[.string k, .string v] 59)) := (Below.refl _ _).alloc (Nat.le_refl _) _
  obtain ⟨w2, hw2⟩ : ∃ w2, w2 = w1.alloc (.cells #[.string k, .string v] 59) := ⟨_, rfl⟩
  rw [← hw2] at N2 bn2
  obtain ⟨rb, hrb⟩ : ∃ g, g = w.heap.size := ⟨_, rfl⟩
  have hz1 : w1.heap.size = w.heap.size + 1 := by rw [hw1]; simp
  obtain ⟨pb, hpb⟩ : ∃ g, g = w.heap.size + 1 := ⟨_, rfl⟩
  rw [hz1, ← hpb] at N2
  rw [← hrb] at N1
  clear hz1
  have y0 := ck_at N2 0
  have y1 := ck_at N2 1
  simp only [List.getElem?_cons_zero, List.getElem?_cons_succ] at y0 y1
  have HN0 := tNumber_any v w2
  have hnb := nu_bd v.data.toList
  obtain ⟨n, hn⟩ : ∃ n, n = (nuR v.data.toList).1 := ⟨_, rfl⟩
  obtain ⟨E, hE⟩ : ∃ E, E = (nuR v.data.toList).2 := ⟨_, rfl⟩
  rw [← hn, ← hE] at HN0
  rw [← hn] at hnb
  have HN : Hid _ := HN0
  have HG : Hid (agM 20 an p v = (p, an, true)) := (rfl : agM 20 an p v = (p, an, true))
  rw [HG.out]
  simp only
  have HNB : Hid _ := hnb
  clear HG hn hE HN0 hnb
  have H2 : Hid _ := And.intro (below_then bn1 bn2) (And.intro N2 (And.intro hB (N1.laterB bn2)))
  clear bn1 bn2 N1 N2 hB
  go_enter Tryd.func38, Tryd.ntmps38
  go_upto_region 1 with fail
  rw [← hw1, ← hw2, ← hpb, ← hrb]
  clear hw1 hw2 hrb hpb
  go_wp2_with fail
  refine (Calls.mono HN.out) ?_
  rintro e w3 ⟨rfl, b3⟩
  clear HN y0 y1
  have P3 := H2.out.2.1.laterB b3
  have B3 := H2.out.2.2.1.laterB (below_then H2.out.1 b3)
  have R3 := H2.out.2.2.2.laterB b3
  have T3 : Turned (fun k => k = g) w w3 := (turned_below (below_then H2.out.1 b3)).mono (fun k h => h.elim)
  clear b3 H2
  have y0 := ck_at P3 0
  have y1 := ck_at P3 1
  simp only [List.getElem?_cons_zero, List.getElem?_cons_succ] at y0 y1
  go_upto_region 5 with fail
  have E0 : Hid _ := (HK.out 0 _ rfl)
  go_upto_region 7 with (refine wpList_value rfl (exec_eqS rfl rfl rfl (b := false) E0.out) ?_)
  clear E0
  have E1 : Hid _ := (HK.out 1 _ rfl)
  go_upto_region 9 with (refine wpList_value rfl (exec_eqS rfl rfl rfl (b := false) E1.out) ?_)
  clear E1
  have E2 : Hid _ := (HK.out 2 _ rfl)
  go_upto_region 11 with (refine wpList_value rfl (exec_eqS rfl rfl rfl (b := false) E2.out) ?_)
  clear E2
  have E3 : Hid _ := (HK.out 3 _ rfl)
  go_upto_region 12 with (refine wpList_value rfl (exec_eqS rfl rfl rfl (b := false) E3.out) ?_)
  clear E3
  have E4 : Hid _ := (HK.out 7 _ rfl)
  go_upto_region 14 with (refine wpList_value rfl (exec_eqS rfl rfl rfl (b := false) E4.out) ?_)
  clear E4
  have E5 : Hid _ := (HK.out 4 _ rfl)
  go_upto_region 16 with (refine wpList_value rfl (exec_eqS rfl rfl rfl (b := false) E5.out) ?_)
  clear E5
  have E6 : Hid _ := (HK.out 5 _ rfl)
  go_upto_region 18 with (refine wpList_value rfl (exec_eqS rfl rfl rfl (b := false) E6.out) ?_)
  clear E6
  have E7 : Hid _ := (HK.out 6 _ rfl)
  go_upto_region 20 with (refine wpList_value rfl (exec_eqS rfl rfl rfl (b := false) E7.out) ?_)
  clear E7
  have E8 : Hid _ := (HK.out 8 _ rfl)
  go_upto_region 23 with (refine wpList_value rfl (exec_eqS rfl rfl rfl (b := false) E8.out) ?_)
  clear E8
  have E9 : Hid _ := (HK.out 9 _ rfl)
  go_upto_region 26 with (refine wpList_value rfl (exec_eqS rfl rfl rfl (b := false) E9.out) ?_)
  clear E9
  have E10 : Hid _ := (HK.out 10 _ rfl)
  go_upto_region 29 with (refine wpList_value rfl (exec_eqS rfl rfl rfl (b := false) E10.out) ?_)
  clear E10
  have E11 : Hid _ := (HK.out 11 _ rfl)
  go_upto_region 32 with (refine wpList_value rfl (exec_eqS rfl rfl rfl (b := false) E11.out) ?_)
  clear E11
  have E12 : Hid _ := (HK.out 15 _ rfl)
  clear HK
  have x0 := ck_at R3 0
  have x1 := ck_at R3 1
  have x2 := ck_at R3 2
  have x3 := ck_at R3 3
  simp only [List.getElem?_cons_zero, List.getElem?_cons_succ] at x0 x1 x2 x3
  have F : Hid _ := And.intro T3 B3
  clear T3 B3 P3 R3
  go_wp2_with (refine wpList_value rfl (exec_eqS rfl rfl rfl (b := false) E12.out) ?_)
  refine bodyPost_ret (v := .tuple #[.string an, .bool true]) (by first | rfl | simp [results, Tryd.results38, go_sem]) rfl ?_
  exact ⟨rfl, F.out.1, F.out.2⟩
theorem tAg_any (j : Nat) (hj : j ≤ 20) (g : Nat) (f lo hi : Int) (an : ByteArray) (p : Pm18) (k v : ByteArray) (w : World) (hk : KF k j) (hB : Blk w g 50 p.c) (hP : ∀ X, Turned (fun k => k = g) w X → PowT X) (hs : v.size ≤ 9223372036854775807) : Calls Tryd.prog 38 #[.pointer (some ⟨g, 0, none⟩), .agg #[.int .i64 f, .int .i64 lo, .int .i64 hi, .string an], .agg #[.string k, .string v]] w fun e w' => e = .returned (.tuple #[.string (agM j an p v).2.1, .bool (agM j an p v).2.2]) ∧ Turned (fun k => k = g) w w' ∧ Blk w' g 50 (agM j an p v).1.c := by
  rcases nat22 (show j ≤ 21 by omega) with rfl | rfl | rfl | rfl | rfl | rfl | rfl | rfl | rfl | rfl | rfl | rfl | rfl | rfl | rfl | rfl | rfl | rfl | rfl | rfl | rfl | rfl
  · exact tAg_0 g f lo hi an p k v w hk hB hP hs
  · exact tAg_1 g f lo hi an p k v w hk hB hP hs
  · exact tAg_2 g f lo hi an p k v w hk hB hP hs
  · exact tAg_3 g f lo hi an p k v w hk hB hP hs
  · exact tAg_4 g f lo hi an p k v w hk hB hP hs
  · exact tAg_5 g f lo hi an p k v w hk hB hP hs
  · exact tAg_6 g f lo hi an p k v w hk hB hP hs
  · exact tAg_7 g f lo hi an p k v w hk hB hP hs
  · exact tAg_8 g f lo hi an p k v w hk hB hP hs
  · exact tAg_9 g f lo hi an p k v w hk hB hP hs
  · exact tAg_10 g f lo hi an p k v w hk hB hP hs
  · exact tAg_11 g f lo hi an p k v w hk hB hP hs
  · exact tAg_12 g f lo hi an p k v w hk hB hP hs
  · exact tAg_13 g f lo hi an p k v w hk hB hP hs
  · exact tAg_14 g f lo hi an p k v w hk hB hP hs
  · exact tAg_15 g f lo hi an p k v w hk hB hP hs
  · exact tAg_16 g f lo hi an p k v w hk hB hP hs
  · exact tAg_17 g f lo hi an p k v w hk hB hP hs
  · exact tAg_18 g f lo hi an p k v w hk hB hP hs
  · exact tAg_19 g f lo hi an p k v w hk hB hP hs
  · exact tAg_20 g f lo hi an p k v w hk hB hP hs
  · omega
end Go.Proofs.YtligmiajlbjecaaDoor

/- text, the document's: lesser, yes, bounds. -/
namespace Go.Proofs.YtligmiajlbjecaaDoor
open Go.RowKit
set_option linter.unusedVariables false
set_option linter.unusedSimpArgs false
set_option maxRecDepth 8000

theorem rLesser_any (a b : Int) (w : World) : Calls Tryd.prog 40 #[.int .i64 a, .int .i64 b] w fun e w' => e = .returned (.int .i64 (min a b)) ∧ w = w' := by
  by_cases h : a < b
  · have e : min a b = a := by omega
    rw [e]
    clear e
    go_enter Tryd.func40, Tryd.ntmps40
    go_wp2
    go_ret
    exact ⟨rfl, rfl⟩
  · have e : min a b = b := by omega
    rw [e]
    clear e
    go_enter Tryd.func40, Tryd.ntmps40
    go_wp2
    go_ret
    exact ⟨rfl, rfl⟩
theorem rYes_any (b : Bool) (w : World) : Calls Tryd.prog 59 #[.bool b] w fun e w' => e = .returned (.string (ynS b)) ∧ w = w' := by
  go_enter Tryd.func59, Tryd.ntmps59
  cases b <;> (go_wp2; go_ret; exact ⟨rfl, rfl⟩)
/-- what a key's number may be -/
def bdI : Nat → Int × Int × Bool
  | 7 => (512, 16777215, true)
  | 8 => (512, 16777215, true)
  | 9 => (512, 16777215, true)
  | 12 => (1, 65535, true)
  | 13 => (1, 65535, true)
  | 14 => (0, 2, true)
  | 15 => (0, 3600, true)
  | 16 => (0, 3600, true)
  | _ => (0, 0, false)
set_option maxHeartbeats 4000000 in
theorem rBd_0 (k : ByteArray) (w : World) (hk : KF k 0) : Calls Tryd.prog 49 #[.string k] w fun e w' => e = .returned (.tuple #[.int .i64 0, .int .i64 0, .bool false]) ∧ w = w' := by
  have HK : Hid _ := hk
  clear hk
  go_enter Tryd.func49, Tryd.ntmps49
  go_upto_region 2 with fail
  have E0 : Hid _ := (HK.out 7 _ rfl)
  go_upto_region 3 with (refine wpList_value rfl (exec_eqS rfl rfl rfl (b := false) E0.out) ?_)
  clear E0
  have E1 : Hid _ := (HK.out 8 _ rfl)
  go_upto_region 4 with (refine wpList_value rfl (exec_eqS rfl rfl rfl (b := false) E1.out) ?_)
  clear E1
  have E2 : Hid _ := (HK.out 9 _ rfl)
  go_upto_region 6 with (refine wpList_value rfl (exec_eqS rfl rfl rfl (b := false) E2.out) ?_)
  clear E2
  have E3 : Hid _ := (HK.out 12 _ rfl)
  go_upto_region 7 with (refine wpList_value rfl (exec_eqS rfl rfl rfl (b := false) E3.out) ?_)
  clear E3
  have E4 : Hid _ := (HK.out 13 _ rfl)
  go_upto_region 9 with (refine wpList_value rfl (exec_eqS rfl rfl rfl (b := false) E4.out) ?_)
  clear E4
  have E5 : Hid _ := (HK.out 14 _ rfl)
  go_upto_region 11 with (refine wpList_value rfl (exec_eqS rfl rfl rfl (b := false) E5.out) ?_)
  clear E5
  have E6 : Hid _ := (HK.out 15 _ rfl)
  go_upto_region 12 with (refine wpList_value rfl (exec_eqS rfl rfl rfl (b := false) E6.out) ?_)
  clear E6
  have E7 : Hid _ := (HK.out 16 _ rfl)
  go_wp2_with (refine wpList_value rfl (exec_eqS rfl rfl rfl (b := false) E7.out) ?_)
  refine bodyPost_ret (v := .tuple #[.int .i64 0, .int .i64 0, .bool false]) (by first | rfl | simp [results, Tryd.results49, go_sem]) rfl ?_
  exact ⟨rfl, rfl⟩
set_option maxHeartbeats 4000000 in
theorem rBd_1 (k : ByteArray) (w : World) (hk : KF k 1) : Calls Tryd.prog 49 #[.string k] w fun e w' => e = .returned (.tuple #[.int .i64 0, .int .i64 0, .bool false]) ∧ w = w' := by
  have HK : Hid _ := hk
  clear hk
  go_enter Tryd.func49, Tryd.ntmps49
  go_upto_region 2 with fail
  have E0 : Hid _ := (HK.out 7 _ rfl)
  go_upto_region 3 with (refine wpList_value rfl (exec_eqS rfl rfl rfl (b := false) E0.out) ?_)
  clear E0
  have E1 : Hid _ := (HK.out 8 _ rfl)
  go_upto_region 4 with (refine wpList_value rfl (exec_eqS rfl rfl rfl (b := false) E1.out) ?_)
  clear E1
  have E2 : Hid _ := (HK.out 9 _ rfl)
  go_upto_region 6 with (refine wpList_value rfl (exec_eqS rfl rfl rfl (b := false) E2.out) ?_)
  clear E2
  have E3 : Hid _ := (HK.out 12 _ rfl)
  go_upto_region 7 with (refine wpList_value rfl (exec_eqS rfl rfl rfl (b := false) E3.out) ?_)
  clear E3
  have E4 : Hid _ := (HK.out 13 _ rfl)
  go_upto_region 9 with (refine wpList_value rfl (exec_eqS rfl rfl rfl (b := false) E4.out) ?_)
  clear E4
  have E5 : Hid _ := (HK.out 14 _ rfl)
  go_upto_region 11 with (refine wpList_value rfl (exec_eqS rfl rfl rfl (b := false) E5.out) ?_)
  clear E5
  have E6 : Hid _ := (HK.out 15 _ rfl)
  go_upto_region 12 with (refine wpList_value rfl (exec_eqS rfl rfl rfl (b := false) E6.out) ?_)
  clear E6
  have E7 : Hid _ := (HK.out 16 _ rfl)
  go_wp2_with (refine wpList_value rfl (exec_eqS rfl rfl rfl (b := false) E7.out) ?_)
  refine bodyPost_ret (v := .tuple #[.int .i64 0, .int .i64 0, .bool false]) (by first | rfl | simp [results, Tryd.results49, go_sem]) rfl ?_
  exact ⟨rfl, rfl⟩
set_option maxHeartbeats 4000000 in
theorem rBd_2 (k : ByteArray) (w : World) (hk : KF k 2) : Calls Tryd.prog 49 #[.string k] w fun e w' => e = .returned (.tuple #[.int .i64 0, .int .i64 0, .bool false]) ∧ w = w' := by
  have HK : Hid _ := hk
  clear hk
  go_enter Tryd.func49, Tryd.ntmps49
  go_upto_region 2 with fail
  have E0 : Hid _ := (HK.out 7 _ rfl)
  go_upto_region 3 with (refine wpList_value rfl (exec_eqS rfl rfl rfl (b := false) E0.out) ?_)
  clear E0
  have E1 : Hid _ := (HK.out 8 _ rfl)
  go_upto_region 4 with (refine wpList_value rfl (exec_eqS rfl rfl rfl (b := false) E1.out) ?_)
  clear E1
  have E2 : Hid _ := (HK.out 9 _ rfl)
  go_upto_region 6 with (refine wpList_value rfl (exec_eqS rfl rfl rfl (b := false) E2.out) ?_)
  clear E2
  have E3 : Hid _ := (HK.out 12 _ rfl)
  go_upto_region 7 with (refine wpList_value rfl (exec_eqS rfl rfl rfl (b := false) E3.out) ?_)
  clear E3
  have E4 : Hid _ := (HK.out 13 _ rfl)
  go_upto_region 9 with (refine wpList_value rfl (exec_eqS rfl rfl rfl (b := false) E4.out) ?_)
  clear E4
  have E5 : Hid _ := (HK.out 14 _ rfl)
  go_upto_region 11 with (refine wpList_value rfl (exec_eqS rfl rfl rfl (b := false) E5.out) ?_)
  clear E5
  have E6 : Hid _ := (HK.out 15 _ rfl)
  go_upto_region 12 with (refine wpList_value rfl (exec_eqS rfl rfl rfl (b := false) E6.out) ?_)
  clear E6
  have E7 : Hid _ := (HK.out 16 _ rfl)
  go_wp2_with (refine wpList_value rfl (exec_eqS rfl rfl rfl (b := false) E7.out) ?_)
  refine bodyPost_ret (v := .tuple #[.int .i64 0, .int .i64 0, .bool false]) (by first | rfl | simp [results, Tryd.results49, go_sem]) rfl ?_
  exact ⟨rfl, rfl⟩
set_option maxHeartbeats 4000000 in
theorem rBd_3 (k : ByteArray) (w : World) (hk : KF k 3) : Calls Tryd.prog 49 #[.string k] w fun e w' => e = .returned (.tuple #[.int .i64 0, .int .i64 0, .bool false]) ∧ w = w' := by
  have HK : Hid _ := hk
  clear hk
  go_enter Tryd.func49, Tryd.ntmps49
  go_upto_region 2 with fail
  have E0 : Hid _ := (HK.out 7 _ rfl)
  go_upto_region 3 with (refine wpList_value rfl (exec_eqS rfl rfl rfl (b := false) E0.out) ?_)
  clear E0
  have E1 : Hid _ := (HK.out 8 _ rfl)
  go_upto_region 4 with (refine wpList_value rfl (exec_eqS rfl rfl rfl (b := false) E1.out) ?_)
  clear E1
  have E2 : Hid _ := (HK.out 9 _ rfl)
  go_upto_region 6 with (refine wpList_value rfl (exec_eqS rfl rfl rfl (b := false) E2.out) ?_)
  clear E2
  have E3 : Hid _ := (HK.out 12 _ rfl)
  go_upto_region 7 with (refine wpList_value rfl (exec_eqS rfl rfl rfl (b := false) E3.out) ?_)
  clear E3
  have E4 : Hid _ := (HK.out 13 _ rfl)
  go_upto_region 9 with (refine wpList_value rfl (exec_eqS rfl rfl rfl (b := false) E4.out) ?_)
  clear E4
  have E5 : Hid _ := (HK.out 14 _ rfl)
  go_upto_region 11 with (refine wpList_value rfl (exec_eqS rfl rfl rfl (b := false) E5.out) ?_)
  clear E5
  have E6 : Hid _ := (HK.out 15 _ rfl)
  go_upto_region 12 with (refine wpList_value rfl (exec_eqS rfl rfl rfl (b := false) E6.out) ?_)
  clear E6
  have E7 : Hid _ := (HK.out 16 _ rfl)
  go_wp2_with (refine wpList_value rfl (exec_eqS rfl rfl rfl (b := false) E7.out) ?_)
  refine bodyPost_ret (v := .tuple #[.int .i64 0, .int .i64 0, .bool false]) (by first | rfl | simp [results, Tryd.results49, go_sem]) rfl ?_
  exact ⟨rfl, rfl⟩
set_option maxHeartbeats 4000000 in
theorem rBd_4 (k : ByteArray) (w : World) (hk : KF k 4) : Calls Tryd.prog 49 #[.string k] w fun e w' => e = .returned (.tuple #[.int .i64 0, .int .i64 0, .bool false]) ∧ w = w' := by
  have HK : Hid _ := hk
  clear hk
  go_enter Tryd.func49, Tryd.ntmps49
  go_upto_region 2 with fail
  have E0 : Hid _ := (HK.out 7 _ rfl)
  go_upto_region 3 with (refine wpList_value rfl (exec_eqS rfl rfl rfl (b := false) E0.out) ?_)
  clear E0
  have E1 : Hid _ := (HK.out 8 _ rfl)
  go_upto_region 4 with (refine wpList_value rfl (exec_eqS rfl rfl rfl (b := false) E1.out) ?_)
  clear E1
  have E2 : Hid _ := (HK.out 9 _ rfl)
  go_upto_region 6 with (refine wpList_value rfl (exec_eqS rfl rfl rfl (b := false) E2.out) ?_)
  clear E2
  have E3 : Hid _ := (HK.out 12 _ rfl)
  go_upto_region 7 with (refine wpList_value rfl (exec_eqS rfl rfl rfl (b := false) E3.out) ?_)
  clear E3
  have E4 : Hid _ := (HK.out 13 _ rfl)
  go_upto_region 9 with (refine wpList_value rfl (exec_eqS rfl rfl rfl (b := false) E4.out) ?_)
  clear E4
  have E5 : Hid _ := (HK.out 14 _ rfl)
  go_upto_region 11 with (refine wpList_value rfl (exec_eqS rfl rfl rfl (b := false) E5.out) ?_)
  clear E5
  have E6 : Hid _ := (HK.out 15 _ rfl)
  go_upto_region 12 with (refine wpList_value rfl (exec_eqS rfl rfl rfl (b := false) E6.out) ?_)
  clear E6
  have E7 : Hid _ := (HK.out 16 _ rfl)
  go_wp2_with (refine wpList_value rfl (exec_eqS rfl rfl rfl (b := false) E7.out) ?_)
  refine bodyPost_ret (v := .tuple #[.int .i64 0, .int .i64 0, .bool false]) (by first | rfl | simp [results, Tryd.results49, go_sem]) rfl ?_
  exact ⟨rfl, rfl⟩
set_option maxHeartbeats 4000000 in
theorem rBd_5 (k : ByteArray) (w : World) (hk : KF k 5) : Calls Tryd.prog 49 #[.string k] w fun e w' => e = .returned (.tuple #[.int .i64 0, .int .i64 0, .bool false]) ∧ w = w' := by
  have HK : Hid _ := hk
  clear hk
  go_enter Tryd.func49, Tryd.ntmps49
  go_upto_region 2 with fail
  have E0 : Hid _ := (HK.out 7 _ rfl)
  go_upto_region 3 with (refine wpList_value rfl (exec_eqS rfl rfl rfl (b := false) E0.out) ?_)
  clear E0
  have E1 : Hid _ := (HK.out 8 _ rfl)
  go_upto_region 4 with (refine wpList_value rfl (exec_eqS rfl rfl rfl (b := false) E1.out) ?_)
  clear E1
  have E2 : Hid _ := (HK.out 9 _ rfl)
  go_upto_region 6 with (refine wpList_value rfl (exec_eqS rfl rfl rfl (b := false) E2.out) ?_)
  clear E2
  have E3 : Hid _ := (HK.out 12 _ rfl)
  go_upto_region 7 with (refine wpList_value rfl (exec_eqS rfl rfl rfl (b := false) E3.out) ?_)
  clear E3
  have E4 : Hid _ := (HK.out 13 _ rfl)
  go_upto_region 9 with (refine wpList_value rfl (exec_eqS rfl rfl rfl (b := false) E4.out) ?_)
  clear E4
  have E5 : Hid _ := (HK.out 14 _ rfl)
  go_upto_region 11 with (refine wpList_value rfl (exec_eqS rfl rfl rfl (b := false) E5.out) ?_)
  clear E5
  have E6 : Hid _ := (HK.out 15 _ rfl)
  go_upto_region 12 with (refine wpList_value rfl (exec_eqS rfl rfl rfl (b := false) E6.out) ?_)
  clear E6
  have E7 : Hid _ := (HK.out 16 _ rfl)
  go_wp2_with (refine wpList_value rfl (exec_eqS rfl rfl rfl (b := false) E7.out) ?_)
  refine bodyPost_ret (v := .tuple #[.int .i64 0, .int .i64 0, .bool false]) (by first | rfl | simp [results, Tryd.results49, go_sem]) rfl ?_
  exact ⟨rfl, rfl⟩
set_option maxHeartbeats 4000000 in
theorem rBd_6 (k : ByteArray) (w : World) (hk : KF k 6) : Calls Tryd.prog 49 #[.string k] w fun e w' => e = .returned (.tuple #[.int .i64 0, .int .i64 0, .bool false]) ∧ w = w' := by
  have HK : Hid _ := hk
  clear hk
  go_enter Tryd.func49, Tryd.ntmps49
  go_upto_region 2 with fail
  have E0 : Hid _ := (HK.out 7 _ rfl)
  go_upto_region 3 with (refine wpList_value rfl (exec_eqS rfl rfl rfl (b := false) E0.out) ?_)
  clear E0
  have E1 : Hid _ := (HK.out 8 _ rfl)
  go_upto_region 4 with (refine wpList_value rfl (exec_eqS rfl rfl rfl (b := false) E1.out) ?_)
  clear E1
  have E2 : Hid _ := (HK.out 9 _ rfl)
  go_upto_region 6 with (refine wpList_value rfl (exec_eqS rfl rfl rfl (b := false) E2.out) ?_)
  clear E2
  have E3 : Hid _ := (HK.out 12 _ rfl)
  go_upto_region 7 with (refine wpList_value rfl (exec_eqS rfl rfl rfl (b := false) E3.out) ?_)
  clear E3
  have E4 : Hid _ := (HK.out 13 _ rfl)
  go_upto_region 9 with (refine wpList_value rfl (exec_eqS rfl rfl rfl (b := false) E4.out) ?_)
  clear E4
  have E5 : Hid _ := (HK.out 14 _ rfl)
  go_upto_region 11 with (refine wpList_value rfl (exec_eqS rfl rfl rfl (b := false) E5.out) ?_)
  clear E5
  have E6 : Hid _ := (HK.out 15 _ rfl)
  go_upto_region 12 with (refine wpList_value rfl (exec_eqS rfl rfl rfl (b := false) E6.out) ?_)
  clear E6
  have E7 : Hid _ := (HK.out 16 _ rfl)
  go_wp2_with (refine wpList_value rfl (exec_eqS rfl rfl rfl (b := false) E7.out) ?_)
  refine bodyPost_ret (v := .tuple #[.int .i64 0, .int .i64 0, .bool false]) (by first | rfl | simp [results, Tryd.results49, go_sem]) rfl ?_
  exact ⟨rfl, rfl⟩
set_option maxHeartbeats 4000000 in
theorem rBd_7 (k : ByteArray) (w : World) (hk : KF k 7) : Calls Tryd.prog 49 #[.string k] w fun e w' => e = .returned (.tuple #[.int .i64 512, .int .i64 16777215, .bool true]) ∧ w = w' := by
  have HK : Hid _ := hk
  clear hk
  go_enter Tryd.func49, Tryd.ntmps49
  go_upto_region 2 with fail
  have E0 : Hid _ := (HK.out 7 _ rfl)
  go_wp2_with (refine wpList_value rfl (exec_eqS rfl rfl rfl (b := true) E0.out) ?_)
  refine bodyPost_ret (v := .tuple #[.int .i64 512, .int .i64 16777215, .bool true]) (by first | rfl | simp [results, Tryd.results49, go_sem]) rfl ?_
  exact ⟨rfl, rfl⟩
set_option maxHeartbeats 4000000 in
theorem rBd_8 (k : ByteArray) (w : World) (hk : KF k 8) : Calls Tryd.prog 49 #[.string k] w fun e w' => e = .returned (.tuple #[.int .i64 512, .int .i64 16777215, .bool true]) ∧ w = w' := by
  have HK : Hid _ := hk
  clear hk
  go_enter Tryd.func49, Tryd.ntmps49
  go_upto_region 2 with fail
  have E0 : Hid _ := (HK.out 7 _ rfl)
  go_upto_region 3 with (refine wpList_value rfl (exec_eqS rfl rfl rfl (b := false) E0.out) ?_)
  clear E0
  have E1 : Hid _ := (HK.out 8 _ rfl)
  go_wp2_with (refine wpList_value rfl (exec_eqS rfl rfl rfl (b := true) E1.out) ?_)
  refine bodyPost_ret (v := .tuple #[.int .i64 512, .int .i64 16777215, .bool true]) (by first | rfl | simp [results, Tryd.results49, go_sem]) rfl ?_
  exact ⟨rfl, rfl⟩
set_option maxHeartbeats 4000000 in
theorem rBd_9 (k : ByteArray) (w : World) (hk : KF k 9) : Calls Tryd.prog 49 #[.string k] w fun e w' => e = .returned (.tuple #[.int .i64 512, .int .i64 16777215, .bool true]) ∧ w = w' := by
  have HK : Hid _ := hk
  clear hk
  go_enter Tryd.func49, Tryd.ntmps49
  go_upto_region 2 with fail
  have E0 : Hid _ := (HK.out 7 _ rfl)
  go_upto_region 3 with (refine wpList_value rfl (exec_eqS rfl rfl rfl (b := false) E0.out) ?_)
  clear E0
  have E1 : Hid _ := (HK.out 8 _ rfl)
  go_upto_region 4 with (refine wpList_value rfl (exec_eqS rfl rfl rfl (b := false) E1.out) ?_)
  clear E1
  have E2 : Hid _ := (HK.out 9 _ rfl)
  go_wp2_with (refine wpList_value rfl (exec_eqS rfl rfl rfl (b := true) E2.out) ?_)
  refine bodyPost_ret (v := .tuple #[.int .i64 512, .int .i64 16777215, .bool true]) (by first | rfl | simp [results, Tryd.results49, go_sem]) rfl ?_
  exact ⟨rfl, rfl⟩
set_option maxHeartbeats 4000000 in
theorem rBd_10 (k : ByteArray) (w : World) (hk : KF k 10) : Calls Tryd.prog 49 #[.string k] w fun e w' => e = .returned (.tuple #[.int .i64 0, .int .i64 0, .bool false]) ∧ w = w' := by
  have HK : Hid _ := hk
  clear hk
  go_enter Tryd.func49, Tryd.ntmps49
  go_upto_region 2 with fail
  have E0 : Hid _ := (HK.out 7 _ rfl)
  go_upto_region 3 with (refine wpList_value rfl (exec_eqS rfl rfl rfl (b := false) E0.out) ?_)
  clear E0
  have E1 : Hid _ := (HK.out 8 _ rfl)
  go_upto_region 4 with (refine wpList_value rfl (exec_eqS rfl rfl rfl (b := false) E1.out) ?_)
  clear E1
  have E2 : Hid _ := (HK.out 9 _ rfl)
  go_upto_region 6 with (refine wpList_value rfl (exec_eqS rfl rfl rfl (b := false) E2.out) ?_)
  clear E2
  have E3 : Hid _ := (HK.out 12 _ rfl)
  go_upto_region 7 with (refine wpList_value rfl (exec_eqS rfl rfl rfl (b := false) E3.out) ?_)
  clear E3
  have E4 : Hid _ := (HK.out 13 _ rfl)
  go_upto_region 9 with (refine wpList_value rfl (exec_eqS rfl rfl rfl (b := false) E4.out) ?_)
  clear E4
  have E5 : Hid _ := (HK.out 14 _ rfl)
  go_upto_region 11 with (refine wpList_value rfl (exec_eqS rfl rfl rfl (b := false) E5.out) ?_)
  clear E5
  have E6 : Hid _ := (HK.out 15 _ rfl)
  go_upto_region 12 with (refine wpList_value rfl (exec_eqS rfl rfl rfl (b := false) E6.out) ?_)
  clear E6
  have E7 : Hid _ := (HK.out 16 _ rfl)
  go_wp2_with (refine wpList_value rfl (exec_eqS rfl rfl rfl (b := false) E7.out) ?_)
  refine bodyPost_ret (v := .tuple #[.int .i64 0, .int .i64 0, .bool false]) (by first | rfl | simp [results, Tryd.results49, go_sem]) rfl ?_
  exact ⟨rfl, rfl⟩
set_option maxHeartbeats 4000000 in
theorem rBd_11 (k : ByteArray) (w : World) (hk : KF k 11) : Calls Tryd.prog 49 #[.string k] w fun e w' => e = .returned (.tuple #[.int .i64 0, .int .i64 0, .bool false]) ∧ w = w' := by
  have HK : Hid _ := hk
  clear hk
  go_enter Tryd.func49, Tryd.ntmps49
  go_upto_region 2 with fail
  have E0 : Hid _ := (HK.out 7 _ rfl)
  go_upto_region 3 with (refine wpList_value rfl (exec_eqS rfl rfl rfl (b := false) E0.out) ?_)
  clear E0
  have E1 : Hid _ := (HK.out 8 _ rfl)
  go_upto_region 4 with (refine wpList_value rfl (exec_eqS rfl rfl rfl (b := false) E1.out) ?_)
  clear E1
  have E2 : Hid _ := (HK.out 9 _ rfl)
  go_upto_region 6 with (refine wpList_value rfl (exec_eqS rfl rfl rfl (b := false) E2.out) ?_)
  clear E2
  have E3 : Hid _ := (HK.out 12 _ rfl)
  go_upto_region 7 with (refine wpList_value rfl (exec_eqS rfl rfl rfl (b := false) E3.out) ?_)
  clear E3
  have E4 : Hid _ := (HK.out 13 _ rfl)
  go_upto_region 9 with (refine wpList_value rfl (exec_eqS rfl rfl rfl (b := false) E4.out) ?_)
  clear E4
  have E5 : Hid _ := (HK.out 14 _ rfl)
  go_upto_region 11 with (refine wpList_value rfl (exec_eqS rfl rfl rfl (b := false) E5.out) ?_)
  clear E5
  have E6 : Hid _ := (HK.out 15 _ rfl)
  go_upto_region 12 with (refine wpList_value rfl (exec_eqS rfl rfl rfl (b := false) E6.out) ?_)
  clear E6
  have E7 : Hid _ := (HK.out 16 _ rfl)
  go_wp2_with (refine wpList_value rfl (exec_eqS rfl rfl rfl (b := false) E7.out) ?_)
  refine bodyPost_ret (v := .tuple #[.int .i64 0, .int .i64 0, .bool false]) (by first | rfl | simp [results, Tryd.results49, go_sem]) rfl ?_
  exact ⟨rfl, rfl⟩
set_option maxHeartbeats 4000000 in
theorem rBd_12 (k : ByteArray) (w : World) (hk : KF k 12) : Calls Tryd.prog 49 #[.string k] w fun e w' => e = .returned (.tuple #[.int .i64 1, .int .i64 65535, .bool true]) ∧ w = w' := by
  have HK : Hid _ := hk
  clear hk
  go_enter Tryd.func49, Tryd.ntmps49
  go_upto_region 2 with fail
  have E0 : Hid _ := (HK.out 7 _ rfl)
  go_upto_region 3 with (refine wpList_value rfl (exec_eqS rfl rfl rfl (b := false) E0.out) ?_)
  clear E0
  have E1 : Hid _ := (HK.out 8 _ rfl)
  go_upto_region 4 with (refine wpList_value rfl (exec_eqS rfl rfl rfl (b := false) E1.out) ?_)
  clear E1
  have E2 : Hid _ := (HK.out 9 _ rfl)
  go_upto_region 6 with (refine wpList_value rfl (exec_eqS rfl rfl rfl (b := false) E2.out) ?_)
  clear E2
  have E3 : Hid _ := (HK.out 12 _ rfl)
  go_wp2_with (refine wpList_value rfl (exec_eqS rfl rfl rfl (b := true) E3.out) ?_)
  refine bodyPost_ret (v := .tuple #[.int .i64 1, .int .i64 65535, .bool true]) (by first | rfl | simp [results, Tryd.results49, go_sem]) rfl ?_
  exact ⟨rfl, rfl⟩
set_option maxHeartbeats 4000000 in
theorem rBd_13 (k : ByteArray) (w : World) (hk : KF k 13) : Calls Tryd.prog 49 #[.string k] w fun e w' => e = .returned (.tuple #[.int .i64 1, .int .i64 65535, .bool true]) ∧ w = w' := by
  have HK : Hid _ := hk
  clear hk
  go_enter Tryd.func49, Tryd.ntmps49
  go_upto_region 2 with fail
  have E0 : Hid _ := (HK.out 7 _ rfl)
  go_upto_region 3 with (refine wpList_value rfl (exec_eqS rfl rfl rfl (b := false) E0.out) ?_)
  clear E0
  have E1 : Hid _ := (HK.out 8 _ rfl)
  go_upto_region 4 with (refine wpList_value rfl (exec_eqS rfl rfl rfl (b := false) E1.out) ?_)
  clear E1
  have E2 : Hid _ := (HK.out 9 _ rfl)
  go_upto_region 6 with (refine wpList_value rfl (exec_eqS rfl rfl rfl (b := false) E2.out) ?_)
  clear E2
  have E3 : Hid _ := (HK.out 12 _ rfl)
  go_upto_region 7 with (refine wpList_value rfl (exec_eqS rfl rfl rfl (b := false) E3.out) ?_)
  clear E3
  have E4 : Hid _ := (HK.out 13 _ rfl)
  go_wp2_with (refine wpList_value rfl (exec_eqS rfl rfl rfl (b := true) E4.out) ?_)
  refine bodyPost_ret (v := .tuple #[.int .i64 1, .int .i64 65535, .bool true]) (by first | rfl | simp [results, Tryd.results49, go_sem]) rfl ?_
  exact ⟨rfl, rfl⟩
set_option maxHeartbeats 4000000 in
theorem rBd_14 (k : ByteArray) (w : World) (hk : KF k 14) : Calls Tryd.prog 49 #[.string k] w fun e w' => e = .returned (.tuple #[.int .i64 0, .int .i64 2, .bool true]) ∧ w = w' := by
  have HK : Hid _ := hk
  clear hk
  go_enter Tryd.func49, Tryd.ntmps49
  go_upto_region 2 with fail
  have E0 : Hid _ := (HK.out 7 _ rfl)
  go_upto_region 3 with (refine wpList_value rfl (exec_eqS rfl rfl rfl (b := false) E0.out) ?_)
  clear E0
  have E1 : Hid _ := (HK.out 8 _ rfl)
  go_upto_region 4 with (refine wpList_value rfl (exec_eqS rfl rfl rfl (b := false) E1.out) ?_)
  clear E1
  have E2 : Hid _ := (HK.out 9 _ rfl)
  go_upto_region 6 with (refine wpList_value rfl (exec_eqS rfl rfl rfl (b := false) E2.out) ?_)
  clear E2
  have E3 : Hid _ := (HK.out 12 _ rfl)
  go_upto_region 7 with (refine wpList_value rfl (exec_eqS rfl rfl rfl (b := false) E3.out) ?_)
  clear E3
  have E4 : Hid _ := (HK.out 13 _ rfl)
  go_upto_region 9 with (refine wpList_value rfl (exec_eqS rfl rfl rfl (b := false) E4.out) ?_)
  clear E4
  have E5 : Hid _ := (HK.out 14 _ rfl)
  go_wp2_with (refine wpList_value rfl (exec_eqS rfl rfl rfl (b := true) E5.out) ?_)
  refine bodyPost_ret (v := .tuple #[.int .i64 0, .int .i64 2, .bool true]) (by first | rfl | simp [results, Tryd.results49, go_sem]) rfl ?_
  exact ⟨rfl, rfl⟩
set_option maxHeartbeats 4000000 in
theorem rBd_15 (k : ByteArray) (w : World) (hk : KF k 15) : Calls Tryd.prog 49 #[.string k] w fun e w' => e = .returned (.tuple #[.int .i64 0, .int .i64 3600, .bool true]) ∧ w = w' := by
  have HK : Hid _ := hk
  clear hk
  go_enter Tryd.func49, Tryd.ntmps49
  go_upto_region 2 with fail
  have E0 : Hid _ := (HK.out 7 _ rfl)
  go_upto_region 3 with (refine wpList_value rfl (exec_eqS rfl rfl rfl (b := false) E0.out) ?_)
  clear E0
  have E1 : Hid _ := (HK.out 8 _ rfl)
  go_upto_region 4 with (refine wpList_value rfl (exec_eqS rfl rfl rfl (b := false) E1.out) ?_)
  clear E1
  have E2 : Hid _ := (HK.out 9 _ rfl)
  go_upto_region 6 with (refine wpList_value rfl (exec_eqS rfl rfl rfl (b := false) E2.out) ?_)
  clear E2
  have E3 : Hid _ := (HK.out 12 _ rfl)
  go_upto_region 7 with (refine wpList_value rfl (exec_eqS rfl rfl rfl (b := false) E3.out) ?_)
  clear E3
  have E4 : Hid _ := (HK.out 13 _ rfl)
  go_upto_region 9 with (refine wpList_value rfl (exec_eqS rfl rfl rfl (b := false) E4.out) ?_)
  clear E4
  have E5 : Hid _ := (HK.out 14 _ rfl)
  go_upto_region 11 with (refine wpList_value rfl (exec_eqS rfl rfl rfl (b := false) E5.out) ?_)
  clear E5
  have E6 : Hid _ := (HK.out 15 _ rfl)
  go_wp2_with (refine wpList_value rfl (exec_eqS rfl rfl rfl (b := true) E6.out) ?_)
  refine bodyPost_ret (v := .tuple #[.int .i64 0, .int .i64 3600, .bool true]) (by first | rfl | simp [results, Tryd.results49, go_sem]) rfl ?_
  exact ⟨rfl, rfl⟩
set_option maxHeartbeats 4000000 in
theorem rBd_16 (k : ByteArray) (w : World) (hk : KF k 16) : Calls Tryd.prog 49 #[.string k] w fun e w' => e = .returned (.tuple #[.int .i64 0, .int .i64 3600, .bool true]) ∧ w = w' := by
  have HK : Hid _ := hk
  clear hk
  go_enter Tryd.func49, Tryd.ntmps49
  go_upto_region 2 with fail
  have E0 : Hid _ := (HK.out 7 _ rfl)
  go_upto_region 3 with (refine wpList_value rfl (exec_eqS rfl rfl rfl (b := false) E0.out) ?_)
  clear E0
  have E1 : Hid _ := (HK.out 8 _ rfl)
  go_upto_region 4 with (refine wpList_value rfl (exec_eqS rfl rfl rfl (b := false) E1.out) ?_)
  clear E1
  have E2 : Hid _ := (HK.out 9 _ rfl)
  go_upto_region 6 with (refine wpList_value rfl (exec_eqS rfl rfl rfl (b := false) E2.out) ?_)
  clear E2
  have E3 : Hid _ := (HK.out 12 _ rfl)
  go_upto_region 7 with (refine wpList_value rfl (exec_eqS rfl rfl rfl (b := false) E3.out) ?_)
  clear E3
  have E4 : Hid _ := (HK.out 13 _ rfl)
  go_upto_region 9 with (refine wpList_value rfl (exec_eqS rfl rfl rfl (b := false) E4.out) ?_)
  clear E4
  have E5 : Hid _ := (HK.out 14 _ rfl)
  go_upto_region 11 with (refine wpList_value rfl (exec_eqS rfl rfl rfl (b := false) E5.out) ?_)
  clear E5
  have E6 : Hid _ := (HK.out 15 _ rfl)
  go_upto_region 12 with (refine wpList_value rfl (exec_eqS rfl rfl rfl (b := false) E6.out) ?_)
  clear E6
  have E7 : Hid _ := (HK.out 16 _ rfl)
  go_wp2_with (refine wpList_value rfl (exec_eqS rfl rfl rfl (b := true) E7.out) ?_)
  refine bodyPost_ret (v := .tuple #[.int .i64 0, .int .i64 3600, .bool true]) (by first | rfl | simp [results, Tryd.results49, go_sem]) rfl ?_
  exact ⟨rfl, rfl⟩
set_option maxHeartbeats 4000000 in
theorem rBd_17 (k : ByteArray) (w : World) (hk : KF k 17) : Calls Tryd.prog 49 #[.string k] w fun e w' => e = .returned (.tuple #[.int .i64 0, .int .i64 0, .bool false]) ∧ w = w' := by
  have HK : Hid _ := hk
  clear hk
  go_enter Tryd.func49, Tryd.ntmps49
  go_upto_region 2 with fail
  have E0 : Hid _ := (HK.out 7 _ rfl)
  go_upto_region 3 with (refine wpList_value rfl (exec_eqS rfl rfl rfl (b := false) E0.out) ?_)
  clear E0
  have E1 : Hid _ := (HK.out 8 _ rfl)
  go_upto_region 4 with (refine wpList_value rfl (exec_eqS rfl rfl rfl (b := false) E1.out) ?_)
  clear E1
  have E2 : Hid _ := (HK.out 9 _ rfl)
  go_upto_region 6 with (refine wpList_value rfl (exec_eqS rfl rfl rfl (b := false) E2.out) ?_)
  clear E2
  have E3 : Hid _ := (HK.out 12 _ rfl)
  go_upto_region 7 with (refine wpList_value rfl (exec_eqS rfl rfl rfl (b := false) E3.out) ?_)
  clear E3
  have E4 : Hid _ := (HK.out 13 _ rfl)
  go_upto_region 9 with (refine wpList_value rfl (exec_eqS rfl rfl rfl (b := false) E4.out) ?_)
  clear E4
  have E5 : Hid _ := (HK.out 14 _ rfl)
  go_upto_region 11 with (refine wpList_value rfl (exec_eqS rfl rfl rfl (b := false) E5.out) ?_)
  clear E5
  have E6 : Hid _ := (HK.out 15 _ rfl)
  go_upto_region 12 with (refine wpList_value rfl (exec_eqS rfl rfl rfl (b := false) E6.out) ?_)
  clear E6
  have E7 : Hid _ := (HK.out 16 _ rfl)
  go_wp2_with (refine wpList_value rfl (exec_eqS rfl rfl rfl (b := false) E7.out) ?_)
  refine bodyPost_ret (v := .tuple #[.int .i64 0, .int .i64 0, .bool false]) (by first | rfl | simp [results, Tryd.results49, go_sem]) rfl ?_
  exact ⟨rfl, rfl⟩
set_option maxHeartbeats 4000000 in
theorem rBd_18 (k : ByteArray) (w : World) (hk : KF k 18) : Calls Tryd.prog 49 #[.string k] w fun e w' => e = .returned (.tuple #[.int .i64 0, .int .i64 0, .bool false]) ∧ w = w' := by
  have HK : Hid _ := hk
  clear hk
  go_enter Tryd.func49, Tryd.ntmps49
  go_upto_region 2 with fail
  have E0 : Hid _ := (HK.out 7 _ rfl)
  go_upto_region 3 with (refine wpList_value rfl (exec_eqS rfl rfl rfl (b := false) E0.out) ?_)
  clear E0
  have E1 : Hid _ := (HK.out 8 _ rfl)
  go_upto_region 4 with (refine wpList_value rfl (exec_eqS rfl rfl rfl (b := false) E1.out) ?_)
  clear E1
  have E2 : Hid _ := (HK.out 9 _ rfl)
  go_upto_region 6 with (refine wpList_value rfl (exec_eqS rfl rfl rfl (b := false) E2.out) ?_)
  clear E2
  have E3 : Hid _ := (HK.out 12 _ rfl)
  go_upto_region 7 with (refine wpList_value rfl (exec_eqS rfl rfl rfl (b := false) E3.out) ?_)
  clear E3
  have E4 : Hid _ := (HK.out 13 _ rfl)
  go_upto_region 9 with (refine wpList_value rfl (exec_eqS rfl rfl rfl (b := false) E4.out) ?_)
  clear E4
  have E5 : Hid _ := (HK.out 14 _ rfl)
  go_upto_region 11 with (refine wpList_value rfl (exec_eqS rfl rfl rfl (b := false) E5.out) ?_)
  clear E5
  have E6 : Hid _ := (HK.out 15 _ rfl)
  go_upto_region 12 with (refine wpList_value rfl (exec_eqS rfl rfl rfl (b := false) E6.out) ?_)
  clear E6
  have E7 : Hid _ := (HK.out 16 _ rfl)
  go_wp2_with (refine wpList_value rfl (exec_eqS rfl rfl rfl (b := false) E7.out) ?_)
  refine bodyPost_ret (v := .tuple #[.int .i64 0, .int .i64 0, .bool false]) (by first | rfl | simp [results, Tryd.results49, go_sem]) rfl ?_
  exact ⟨rfl, rfl⟩
set_option maxHeartbeats 4000000 in
theorem rBd_19 (k : ByteArray) (w : World) (hk : KF k 19) : Calls Tryd.prog 49 #[.string k] w fun e w' => e = .returned (.tuple #[.int .i64 0, .int .i64 0, .bool false]) ∧ w = w' := by
  have HK : Hid _ := hk
  clear hk
  go_enter Tryd.func49, Tryd.ntmps49
  go_upto_region 2 with fail
  have E0 : Hid _ := (HK.out 7 _ rfl)
  go_upto_region 3 with (refine wpList_value rfl (exec_eqS rfl rfl rfl (b := false) E0.out) ?_)
  clear E0
  have E1 : Hid _ := (HK.out 8 _ rfl)
  go_upto_region 4 with (refine wpList_value rfl (exec_eqS rfl rfl rfl (b := false) E1.out) ?_)
  clear E1
  have E2 : Hid _ := (HK.out 9 _ rfl)
  go_upto_region 6 with (refine wpList_value rfl (exec_eqS rfl rfl rfl (b := false) E2.out) ?_)
  clear E2
  have E3 : Hid _ := (HK.out 12 _ rfl)
  go_upto_region 7 with (refine wpList_value rfl (exec_eqS rfl rfl rfl (b := false) E3.out) ?_)
  clear E3
  have E4 : Hid _ := (HK.out 13 _ rfl)
  go_upto_region 9 with (refine wpList_value rfl (exec_eqS rfl rfl rfl (b := false) E4.out) ?_)
  clear E4
  have E5 : Hid _ := (HK.out 14 _ rfl)
  go_upto_region 11 with (refine wpList_value rfl (exec_eqS rfl rfl rfl (b := false) E5.out) ?_)
  clear E5
  have E6 : Hid _ := (HK.out 15 _ rfl)
  go_upto_region 12 with (refine wpList_value rfl (exec_eqS rfl rfl rfl (b := false) E6.out) ?_)
  clear E6
  have E7 : Hid _ := (HK.out 16 _ rfl)
  go_wp2_with (refine wpList_value rfl (exec_eqS rfl rfl rfl (b := false) E7.out) ?_)
  refine bodyPost_ret (v := .tuple #[.int .i64 0, .int .i64 0, .bool false]) (by first | rfl | simp [results, Tryd.results49, go_sem]) rfl ?_
  exact ⟨rfl, rfl⟩
set_option maxHeartbeats 4000000 in
theorem rBd_20 (k : ByteArray) (w : World) (hk : KF k 20) : Calls Tryd.prog 49 #[.string k] w fun e w' => e = .returned (.tuple #[.int .i64 0, .int .i64 0, .bool false]) ∧ w = w' := by
  have HK : Hid _ := hk
  clear hk
  go_enter Tryd.func49, Tryd.ntmps49
  go_upto_region 2 with fail
  have E0 : Hid _ := (HK.out 7 _ rfl)
  go_upto_region 3 with (refine wpList_value rfl (exec_eqS rfl rfl rfl (b := false) E0.out) ?_)
  clear E0
  have E1 : Hid _ := (HK.out 8 _ rfl)
  go_upto_region 4 with (refine wpList_value rfl (exec_eqS rfl rfl rfl (b := false) E1.out) ?_)
  clear E1
  have E2 : Hid _ := (HK.out 9 _ rfl)
  go_upto_region 6 with (refine wpList_value rfl (exec_eqS rfl rfl rfl (b := false) E2.out) ?_)
  clear E2
  have E3 : Hid _ := (HK.out 12 _ rfl)
  go_upto_region 7 with (refine wpList_value rfl (exec_eqS rfl rfl rfl (b := false) E3.out) ?_)
  clear E3
  have E4 : Hid _ := (HK.out 13 _ rfl)
  go_upto_region 9 with (refine wpList_value rfl (exec_eqS rfl rfl rfl (b := false) E4.out) ?_)
  clear E4
  have E5 : Hid _ := (HK.out 14 _ rfl)
  go_upto_region 11 with (refine wpList_value rfl (exec_eqS rfl rfl rfl (b := false) E5.out) ?_)
  clear E5
  have E6 : Hid _ := (HK.out 15 _ rfl)
  go_upto_region 12 with (refine wpList_value rfl (exec_eqS rfl rfl rfl (b := false) E6.out) ?_)
  clear E6
  have E7 : Hid _ := (HK.out 16 _ rfl)
  go_wp2_with (refine wpList_value rfl (exec_eqS rfl rfl rfl (b := false) E7.out) ?_)
  refine bodyPost_ret (v := .tuple #[.int .i64 0, .int .i64 0, .bool false]) (by first | rfl | simp [results, Tryd.results49, go_sem]) rfl ?_
  exact ⟨rfl, rfl⟩
set_option maxHeartbeats 4000000 in
theorem rBd_21 (k : ByteArray) (w : World) (hk : KF k 21) : Calls Tryd.prog 49 #[.string k] w fun e w' => e = .returned (.tuple #[.int .i64 0, .int .i64 0, .bool false]) ∧ w = w' := by
  have HK : Hid _ := hk
  clear hk
  go_enter Tryd.func49, Tryd.ntmps49
  go_upto_region 2 with fail
  have E0 : Hid _ := (HK.out 7 _ rfl)
  go_upto_region 3 with (refine wpList_value rfl (exec_eqS rfl rfl rfl (b := false) E0.out) ?_)
  clear E0
  have E1 : Hid _ := (HK.out 8 _ rfl)
  go_upto_region 4 with (refine wpList_value rfl (exec_eqS rfl rfl rfl (b := false) E1.out) ?_)
  clear E1
  have E2 : Hid _ := (HK.out 9 _ rfl)
  go_upto_region 6 with (refine wpList_value rfl (exec_eqS rfl rfl rfl (b := false) E2.out) ?_)
  clear E2
  have E3 : Hid _ := (HK.out 12 _ rfl)
  go_upto_region 7 with (refine wpList_value rfl (exec_eqS rfl rfl rfl (b := false) E3.out) ?_)
  clear E3
  have E4 : Hid _ := (HK.out 13 _ rfl)
  go_upto_region 9 with (refine wpList_value rfl (exec_eqS rfl rfl rfl (b := false) E4.out) ?_)
  clear E4
  have E5 : Hid _ := (HK.out 14 _ rfl)
  go_upto_region 11 with (refine wpList_value rfl (exec_eqS rfl rfl rfl (b := false) E5.out) ?_)
  clear E5
  have E6 : Hid _ := (HK.out 15 _ rfl)
  go_upto_region 12 with (refine wpList_value rfl (exec_eqS rfl rfl rfl (b := false) E6.out) ?_)
  clear E6
  have E7 : Hid _ := (HK.out 16 _ rfl)
  go_wp2_with (refine wpList_value rfl (exec_eqS rfl rfl rfl (b := false) E7.out) ?_)
  refine bodyPost_ret (v := .tuple #[.int .i64 0, .int .i64 0, .bool false]) (by first | rfl | simp [results, Tryd.results49, go_sem]) rfl ?_
  exact ⟨rfl, rfl⟩
theorem rBounds_any (k : ByteArray) (w : World) : Calls Tryd.prog 49 #[.string k] w fun e w' => e = .returned (.tuple #[.int .i64 (bdI (keyIx k)).1, .int .i64 (bdI (keyIx k)).2.1, .bool (bdI (keyIx k)).2.2]) ∧ w = w' := by
  obtain ⟨hk, hl⟩ := kf_any k
  generalize keyIx k = j at *
  rcases nat22 hl with rfl | rfl | rfl | rfl | rfl | rfl | rfl | rfl | rfl | rfl | rfl | rfl | rfl | rfl | rfl | rfl | rfl | rfl | rfl | rfl | rfl | rfl
  · exact rBd_0 k w hk
  · exact rBd_1 k w hk
  · exact rBd_2 k w hk
  · exact rBd_3 k w hk
  · exact rBd_4 k w hk
  · exact rBd_5 k w hk
  · exact rBd_6 k w hk
  · exact rBd_7 k w hk
  · exact rBd_8 k w hk
  · exact rBd_9 k w hk
  · exact rBd_10 k w hk
  · exact rBd_11 k w hk
  · exact rBd_12 k w hk
  · exact rBd_13 k w hk
  · exact rBd_14 k w hk
  · exact rBd_15 k w hk
  · exact rBd_16 k w hk
  · exact rBd_17 k w hk
  · exact rBd_18 k w hk
  · exact rBd_19 k w hk
  · exact rBd_20 k w hk
  · exact rBd_21 k w hk
end Go.Proofs.YtligmiajlbjecaaDoor

/- text, the document's: flag. -/
namespace Go.Proofs.YtligmiajlbjecaaDoor
open Go.RowKit
set_option linter.unusedVariables false
set_option linter.unusedSimpArgs false
set_option maxRecDepth 8000

theorem Turned.refl18 (R : Nat → Prop) (w : World) : Turned R w w := ⟨rfl, rfl, rfl, Nat.le_refl _, fun _ _ _ => rfl⟩
/-- a key with Yes or No: what holds then, and the answer -/
def flM (j : Nat) (p : Pm18) (b : Bool) : Pm18 × ByteArray :=
  match j with
  | 10 => ({ p with a := p.a || b }, ynS (p.a || b))
  | 11 => ({ p with imd := p.imd && b }, ynS (p.imd && b))
  | 17 => (p, yesS)
  | 18 => (p, yesS)
  | 19 => (p, noS)
  | 20 => (p, noS)
  | _ => (p, ⟨#[]⟩)
set_option maxHeartbeats 4000000 in
theorem rFl_0 (g : Nat) (p : Pm18) (k : ByteArray) (b : Bool) (w : World) (hk : KF k 0) (hB : Blk w g 48 p.c) : Calls Tryd.prog 53 #[.pointer (some ⟨g, 0, none⟩), .string k, .bool b] w fun e w' => e = .returned (.string (flM 0 p b).2) ∧ Turned (fun k => k = g) w w' ∧ Blk w' g 48 (flM 0 p b).1.c := by
  have HK : Hid _ := hk
  clear hk
  have F : Hid _ := And.intro (Turned.refl18 (fun k => k = g) w) hB
  clear hB
  go_enter Tryd.func53, Tryd.ntmps53
  go_upto_region 2 with fail
  have E0 : Hid _ := (HK.out 10 _ rfl)
  go_upto_region 5 with (refine wpList_value rfl (exec_eqS rfl rfl rfl (b := false) E0.out) ?_)
  clear E0
  have E1 : Hid _ := (HK.out 11 _ rfl)
  go_upto_region 8 with (refine wpList_value rfl (exec_eqS rfl rfl rfl (b := false) E1.out) ?_)
  clear E1
  have E2 : Hid _ := (HK.out 17 _ rfl)
  go_upto_region 9 with (refine wpList_value rfl (exec_eqS rfl rfl rfl (b := false) E2.out) ?_)
  clear E2
  have E3 : Hid _ := (HK.out 18 _ rfl)
  go_upto_region 11 with (refine wpList_value rfl (exec_eqS rfl rfl rfl (b := false) E3.out) ?_)
  clear E3
  have E4 : Hid _ := (HK.out 19 _ rfl)
  go_upto_region 12 with (refine wpList_value rfl (exec_eqS rfl rfl rfl (b := false) E4.out) ?_)
  clear E4
  have E5 : Hid _ := (HK.out 20 _ rfl)
  go_wp2_with (refine wpList_value rfl (exec_eqS rfl rfl rfl (b := false) E5.out) ?_)
  go_ret
  exact ⟨rfl, F.out.1, F.out.2⟩
set_option maxHeartbeats 4000000 in
theorem rFl_1 (g : Nat) (p : Pm18) (k : ByteArray) (b : Bool) (w : World) (hk : KF k 1) (hB : Blk w g 48 p.c) : Calls Tryd.prog 53 #[.pointer (some ⟨g, 0, none⟩), .string k, .bool b] w fun e w' => e = .returned (.string (flM 1 p b).2) ∧ Turned (fun k => k = g) w w' ∧ Blk w' g 48 (flM 1 p b).1.c := by
  have HK : Hid _ := hk
  clear hk
  have F : Hid _ := And.intro (Turned.refl18 (fun k => k = g) w) hB
  clear hB
  go_enter Tryd.func53, Tryd.ntmps53
  go_upto_region 2 with fail
  have E0 : Hid _ := (HK.out 10 _ rfl)
  go_upto_region 5 with (refine wpList_value rfl (exec_eqS rfl rfl rfl (b := false) E0.out) ?_)
  clear E0
  have E1 : Hid _ := (HK.out 11 _ rfl)
  go_upto_region 8 with (refine wpList_value rfl (exec_eqS rfl rfl rfl (b := false) E1.out) ?_)
  clear E1
  have E2 : Hid _ := (HK.out 17 _ rfl)
  go_upto_region 9 with (refine wpList_value rfl (exec_eqS rfl rfl rfl (b := false) E2.out) ?_)
  clear E2
  have E3 : Hid _ := (HK.out 18 _ rfl)
  go_upto_region 11 with (refine wpList_value rfl (exec_eqS rfl rfl rfl (b := false) E3.out) ?_)
  clear E3
  have E4 : Hid _ := (HK.out 19 _ rfl)
  go_upto_region 12 with (refine wpList_value rfl (exec_eqS rfl rfl rfl (b := false) E4.out) ?_)
  clear E4
  have E5 : Hid _ := (HK.out 20 _ rfl)
  go_wp2_with (refine wpList_value rfl (exec_eqS rfl rfl rfl (b := false) E5.out) ?_)
  go_ret
  exact ⟨rfl, F.out.1, F.out.2⟩
set_option maxHeartbeats 4000000 in
theorem rFl_2 (g : Nat) (p : Pm18) (k : ByteArray) (b : Bool) (w : World) (hk : KF k 2) (hB : Blk w g 48 p.c) : Calls Tryd.prog 53 #[.pointer (some ⟨g, 0, none⟩), .string k, .bool b] w fun e w' => e = .returned (.string (flM 2 p b).2) ∧ Turned (fun k => k = g) w w' ∧ Blk w' g 48 (flM 2 p b).1.c := by
  have HK : Hid _ := hk
  clear hk
  have F : Hid _ := And.intro (Turned.refl18 (fun k => k = g) w) hB
  clear hB
  go_enter Tryd.func53, Tryd.ntmps53
  go_upto_region 2 with fail
  have E0 : Hid _ := (HK.out 10 _ rfl)
  go_upto_region 5 with (refine wpList_value rfl (exec_eqS rfl rfl rfl (b := false) E0.out) ?_)
  clear E0
  have E1 : Hid _ := (HK.out 11 _ rfl)
  go_upto_region 8 with (refine wpList_value rfl (exec_eqS rfl rfl rfl (b := false) E1.out) ?_)
  clear E1
  have E2 : Hid _ := (HK.out 17 _ rfl)
  go_upto_region 9 with (refine wpList_value rfl (exec_eqS rfl rfl rfl (b := false) E2.out) ?_)
  clear E2
  have E3 : Hid _ := (HK.out 18 _ rfl)
  go_upto_region 11 with (refine wpList_value rfl (exec_eqS rfl rfl rfl (b := false) E3.out) ?_)
  clear E3
  have E4 : Hid _ := (HK.out 19 _ rfl)
  go_upto_region 12 with (refine wpList_value rfl (exec_eqS rfl rfl rfl (b := false) E4.out) ?_)
  clear E4
  have E5 : Hid _ := (HK.out 20 _ rfl)
  go_wp2_with (refine wpList_value rfl (exec_eqS rfl rfl rfl (b := false) E5.out) ?_)
  go_ret
  exact ⟨rfl, F.out.1, F.out.2⟩
set_option maxHeartbeats 4000000 in
theorem rFl_3 (g : Nat) (p : Pm18) (k : ByteArray) (b : Bool) (w : World) (hk : KF k 3) (hB : Blk w g 48 p.c) : Calls Tryd.prog 53 #[.pointer (some ⟨g, 0, none⟩), .string k, .bool b] w fun e w' => e = .returned (.string (flM 3 p b).2) ∧ Turned (fun k => k = g) w w' ∧ Blk w' g 48 (flM 3 p b).1.c := by
  have HK : Hid _ := hk
  clear hk
  have F : Hid _ := And.intro (Turned.refl18 (fun k => k = g) w) hB
  clear hB
  go_enter Tryd.func53, Tryd.ntmps53
  go_upto_region 2 with fail
  have E0 : Hid _ := (HK.out 10 _ rfl)
  go_upto_region 5 with (refine wpList_value rfl (exec_eqS rfl rfl rfl (b := false) E0.out) ?_)
  clear E0
  have E1 : Hid _ := (HK.out 11 _ rfl)
  go_upto_region 8 with (refine wpList_value rfl (exec_eqS rfl rfl rfl (b := false) E1.out) ?_)
  clear E1
  have E2 : Hid _ := (HK.out 17 _ rfl)
  go_upto_region 9 with (refine wpList_value rfl (exec_eqS rfl rfl rfl (b := false) E2.out) ?_)
  clear E2
  have E3 : Hid _ := (HK.out 18 _ rfl)
  go_upto_region 11 with (refine wpList_value rfl (exec_eqS rfl rfl rfl (b := false) E3.out) ?_)
  clear E3
  have E4 : Hid _ := (HK.out 19 _ rfl)
  go_upto_region 12 with (refine wpList_value rfl (exec_eqS rfl rfl rfl (b := false) E4.out) ?_)
  clear E4
  have E5 : Hid _ := (HK.out 20 _ rfl)
  go_wp2_with (refine wpList_value rfl (exec_eqS rfl rfl rfl (b := false) E5.out) ?_)
  go_ret
  exact ⟨rfl, F.out.1, F.out.2⟩
set_option maxHeartbeats 4000000 in
theorem rFl_4 (g : Nat) (p : Pm18) (k : ByteArray) (b : Bool) (w : World) (hk : KF k 4) (hB : Blk w g 48 p.c) : Calls Tryd.prog 53 #[.pointer (some ⟨g, 0, none⟩), .string k, .bool b] w fun e w' => e = .returned (.string (flM 4 p b).2) ∧ Turned (fun k => k = g) w w' ∧ Blk w' g 48 (flM 4 p b).1.c := by
  have HK : Hid _ := hk
  clear hk
  have F : Hid _ := And.intro (Turned.refl18 (fun k => k = g) w) hB
  clear hB
  go_enter Tryd.func53, Tryd.ntmps53
  go_upto_region 2 with fail
  have E0 : Hid _ := (HK.out 10 _ rfl)
  go_upto_region 5 with (refine wpList_value rfl (exec_eqS rfl rfl rfl (b := false) E0.out) ?_)
  clear E0
  have E1 : Hid _ := (HK.out 11 _ rfl)
  go_upto_region 8 with (refine wpList_value rfl (exec_eqS rfl rfl rfl (b := false) E1.out) ?_)
  clear E1
  have E2 : Hid _ := (HK.out 17 _ rfl)
  go_upto_region 9 with (refine wpList_value rfl (exec_eqS rfl rfl rfl (b := false) E2.out) ?_)
  clear E2
  have E3 : Hid _ := (HK.out 18 _ rfl)
  go_upto_region 11 with (refine wpList_value rfl (exec_eqS rfl rfl rfl (b := false) E3.out) ?_)
  clear E3
  have E4 : Hid _ := (HK.out 19 _ rfl)
  go_upto_region 12 with (refine wpList_value rfl (exec_eqS rfl rfl rfl (b := false) E4.out) ?_)
  clear E4
  have E5 : Hid _ := (HK.out 20 _ rfl)
  go_wp2_with (refine wpList_value rfl (exec_eqS rfl rfl rfl (b := false) E5.out) ?_)
  go_ret
  exact ⟨rfl, F.out.1, F.out.2⟩
set_option maxHeartbeats 4000000 in
theorem rFl_5 (g : Nat) (p : Pm18) (k : ByteArray) (b : Bool) (w : World) (hk : KF k 5) (hB : Blk w g 48 p.c) : Calls Tryd.prog 53 #[.pointer (some ⟨g, 0, none⟩), .string k, .bool b] w fun e w' => e = .returned (.string (flM 5 p b).2) ∧ Turned (fun k => k = g) w w' ∧ Blk w' g 48 (flM 5 p b).1.c := by
  have HK : Hid _ := hk
  clear hk
  have F : Hid _ := And.intro (Turned.refl18 (fun k => k = g) w) hB
  clear hB
  go_enter Tryd.func53, Tryd.ntmps53
  go_upto_region 2 with fail
  have E0 : Hid _ := (HK.out 10 _ rfl)
  go_upto_region 5 with (refine wpList_value rfl (exec_eqS rfl rfl rfl (b := false) E0.out) ?_)
  clear E0
  have E1 : Hid _ := (HK.out 11 _ rfl)
  go_upto_region 8 with (refine wpList_value rfl (exec_eqS rfl rfl rfl (b := false) E1.out) ?_)
  clear E1
  have E2 : Hid _ := (HK.out 17 _ rfl)
  go_upto_region 9 with (refine wpList_value rfl (exec_eqS rfl rfl rfl (b := false) E2.out) ?_)
  clear E2
  have E3 : Hid _ := (HK.out 18 _ rfl)
  go_upto_region 11 with (refine wpList_value rfl (exec_eqS rfl rfl rfl (b := false) E3.out) ?_)
  clear E3
  have E4 : Hid _ := (HK.out 19 _ rfl)
  go_upto_region 12 with (refine wpList_value rfl (exec_eqS rfl rfl rfl (b := false) E4.out) ?_)
  clear E4
  have E5 : Hid _ := (HK.out 20 _ rfl)
  go_wp2_with (refine wpList_value rfl (exec_eqS rfl rfl rfl (b := false) E5.out) ?_)
  go_ret
  exact ⟨rfl, F.out.1, F.out.2⟩
set_option maxHeartbeats 4000000 in
theorem rFl_6 (g : Nat) (p : Pm18) (k : ByteArray) (b : Bool) (w : World) (hk : KF k 6) (hB : Blk w g 48 p.c) : Calls Tryd.prog 53 #[.pointer (some ⟨g, 0, none⟩), .string k, .bool b] w fun e w' => e = .returned (.string (flM 6 p b).2) ∧ Turned (fun k => k = g) w w' ∧ Blk w' g 48 (flM 6 p b).1.c := by
  have HK : Hid _ := hk
  clear hk
  have F : Hid _ := And.intro (Turned.refl18 (fun k => k = g) w) hB
  clear hB
  go_enter Tryd.func53, Tryd.ntmps53
  go_upto_region 2 with fail
  have E0 : Hid _ := (HK.out 10 _ rfl)
  go_upto_region 5 with (refine wpList_value rfl (exec_eqS rfl rfl rfl (b := false) E0.out) ?_)
  clear E0
  have E1 : Hid _ := (HK.out 11 _ rfl)
  go_upto_region 8 with (refine wpList_value rfl (exec_eqS rfl rfl rfl (b := false) E1.out) ?_)
  clear E1
  have E2 : Hid _ := (HK.out 17 _ rfl)
  go_upto_region 9 with (refine wpList_value rfl (exec_eqS rfl rfl rfl (b := false) E2.out) ?_)
  clear E2
  have E3 : Hid _ := (HK.out 18 _ rfl)
  go_upto_region 11 with (refine wpList_value rfl (exec_eqS rfl rfl rfl (b := false) E3.out) ?_)
  clear E3
  have E4 : Hid _ := (HK.out 19 _ rfl)
  go_upto_region 12 with (refine wpList_value rfl (exec_eqS rfl rfl rfl (b := false) E4.out) ?_)
  clear E4
  have E5 : Hid _ := (HK.out 20 _ rfl)
  go_wp2_with (refine wpList_value rfl (exec_eqS rfl rfl rfl (b := false) E5.out) ?_)
  go_ret
  exact ⟨rfl, F.out.1, F.out.2⟩
set_option maxHeartbeats 4000000 in
theorem rFl_7 (g : Nat) (p : Pm18) (k : ByteArray) (b : Bool) (w : World) (hk : KF k 7) (hB : Blk w g 48 p.c) : Calls Tryd.prog 53 #[.pointer (some ⟨g, 0, none⟩), .string k, .bool b] w fun e w' => e = .returned (.string (flM 7 p b).2) ∧ Turned (fun k => k = g) w w' ∧ Blk w' g 48 (flM 7 p b).1.c := by
  have HK : Hid _ := hk
  clear hk
  have F : Hid _ := And.intro (Turned.refl18 (fun k => k = g) w) hB
  clear hB
  go_enter Tryd.func53, Tryd.ntmps53
  go_upto_region 2 with fail
  have E0 : Hid _ := (HK.out 10 _ rfl)
  go_upto_region 5 with (refine wpList_value rfl (exec_eqS rfl rfl rfl (b := false) E0.out) ?_)
  clear E0
  have E1 : Hid _ := (HK.out 11 _ rfl)
  go_upto_region 8 with (refine wpList_value rfl (exec_eqS rfl rfl rfl (b := false) E1.out) ?_)
  clear E1
  have E2 : Hid _ := (HK.out 17 _ rfl)
  go_upto_region 9 with (refine wpList_value rfl (exec_eqS rfl rfl rfl (b := false) E2.out) ?_)
  clear E2
  have E3 : Hid _ := (HK.out 18 _ rfl)
  go_upto_region 11 with (refine wpList_value rfl (exec_eqS rfl rfl rfl (b := false) E3.out) ?_)
  clear E3
  have E4 : Hid _ := (HK.out 19 _ rfl)
  go_upto_region 12 with (refine wpList_value rfl (exec_eqS rfl rfl rfl (b := false) E4.out) ?_)
  clear E4
  have E5 : Hid _ := (HK.out 20 _ rfl)
  go_wp2_with (refine wpList_value rfl (exec_eqS rfl rfl rfl (b := false) E5.out) ?_)
  go_ret
  exact ⟨rfl, F.out.1, F.out.2⟩
set_option maxHeartbeats 4000000 in
theorem rFl_8 (g : Nat) (p : Pm18) (k : ByteArray) (b : Bool) (w : World) (hk : KF k 8) (hB : Blk w g 48 p.c) : Calls Tryd.prog 53 #[.pointer (some ⟨g, 0, none⟩), .string k, .bool b] w fun e w' => e = .returned (.string (flM 8 p b).2) ∧ Turned (fun k => k = g) w w' ∧ Blk w' g 48 (flM 8 p b).1.c := by
  have HK : Hid _ := hk
  clear hk
  have F : Hid _ := And.intro (Turned.refl18 (fun k => k = g) w) hB
  clear hB
  go_enter Tryd.func53, Tryd.ntmps53
  go_upto_region 2 with fail
  have E0 : Hid _ := (HK.out 10 _ rfl)
  go_upto_region 5 with (refine wpList_value rfl (exec_eqS rfl rfl rfl (b := false) E0.out) ?_)
  clear E0
  have E1 : Hid _ := (HK.out 11 _ rfl)
  go_upto_region 8 with (refine wpList_value rfl (exec_eqS rfl rfl rfl (b := false) E1.out) ?_)
  clear E1
  have E2 : Hid _ := (HK.out 17 _ rfl)
  go_upto_region 9 with (refine wpList_value rfl (exec_eqS rfl rfl rfl (b := false) E2.out) ?_)
  clear E2
  have E3 : Hid _ := (HK.out 18 _ rfl)
  go_upto_region 11 with (refine wpList_value rfl (exec_eqS rfl rfl rfl (b := false) E3.out) ?_)
  clear E3
  have E4 : Hid _ := (HK.out 19 _ rfl)
  go_upto_region 12 with (refine wpList_value rfl (exec_eqS rfl rfl rfl (b := false) E4.out) ?_)
  clear E4
  have E5 : Hid _ := (HK.out 20 _ rfl)
  go_wp2_with (refine wpList_value rfl (exec_eqS rfl rfl rfl (b := false) E5.out) ?_)
  go_ret
  exact ⟨rfl, F.out.1, F.out.2⟩
set_option maxHeartbeats 4000000 in
theorem rFl_9 (g : Nat) (p : Pm18) (k : ByteArray) (b : Bool) (w : World) (hk : KF k 9) (hB : Blk w g 48 p.c) : Calls Tryd.prog 53 #[.pointer (some ⟨g, 0, none⟩), .string k, .bool b] w fun e w' => e = .returned (.string (flM 9 p b).2) ∧ Turned (fun k => k = g) w w' ∧ Blk w' g 48 (flM 9 p b).1.c := by
  have HK : Hid _ := hk
  clear hk
  have F : Hid _ := And.intro (Turned.refl18 (fun k => k = g) w) hB
  clear hB
  go_enter Tryd.func53, Tryd.ntmps53
  go_upto_region 2 with fail
  have E0 : Hid _ := (HK.out 10 _ rfl)
  go_upto_region 5 with (refine wpList_value rfl (exec_eqS rfl rfl rfl (b := false) E0.out) ?_)
  clear E0
  have E1 : Hid _ := (HK.out 11 _ rfl)
  go_upto_region 8 with (refine wpList_value rfl (exec_eqS rfl rfl rfl (b := false) E1.out) ?_)
  clear E1
  have E2 : Hid _ := (HK.out 17 _ rfl)
  go_upto_region 9 with (refine wpList_value rfl (exec_eqS rfl rfl rfl (b := false) E2.out) ?_)
  clear E2
  have E3 : Hid _ := (HK.out 18 _ rfl)
  go_upto_region 11 with (refine wpList_value rfl (exec_eqS rfl rfl rfl (b := false) E3.out) ?_)
  clear E3
  have E4 : Hid _ := (HK.out 19 _ rfl)
  go_upto_region 12 with (refine wpList_value rfl (exec_eqS rfl rfl rfl (b := false) E4.out) ?_)
  clear E4
  have E5 : Hid _ := (HK.out 20 _ rfl)
  go_wp2_with (refine wpList_value rfl (exec_eqS rfl rfl rfl (b := false) E5.out) ?_)
  go_ret
  exact ⟨rfl, F.out.1, F.out.2⟩
set_option maxHeartbeats 4000000 in
theorem rFl_10 (g : Nat) (p : Pm18) (k : ByteArray) (b : Bool) (w : World) (hk : KF k 10) (hB : Blk w g 48 p.c) : Calls Tryd.prog 53 #[.pointer (some ⟨g, 0, none⟩), .string k, .bool b] w fun e w' => e = .returned (.string (flM 10 p b).2) ∧ Turned (fun k => k = g) w w' ∧ Blk w' g 48 (flM 10 p b).1.c := by
  have HK : Hid _ := hk
  clear hk
  obtain ⟨phs, pds, pmo, pmi, pbu, pfi, pa, pim, pdi, pini, ptgt⟩ := p
  unfold Pm18.c at hB
  simp only at hB
  cases pa
  · cases b
    · have S4 := hB.set 6 (.bool false)
      simp only [List.set_cons_zero, List.set_cons_succ] at S4
      have F : Hid _ := And.intro (turned_set w g 6 (.bool false)) S4
      have z0 := ck_at hB 0
      have z1 := ck_at hB 1
      have z2 := ck_at hB 2
      have z3 := ck_at hB 3
      have z4 := ck_at hB 4
      have z5 := ck_at hB 5
      have z6 := ck_at hB 6
      have z7 := ck_at hB 7
      have z8 := ck_at hB 8
      have z9 := ck_at hB 9
      have z10 := ck_at hB 10
      simp only [List.getElem?_cons_zero, List.getElem?_cons_succ] at z0 z1 z2 z3 z4 z5 z6 z7 z8 z9 z10
      have fz := ck_fz hB 6
      clear S4 hB
      go_enter Tryd.func53, Tryd.ntmps53
      go_upto_region 2 with fail
      have E0 : Hid _ := (HK.out 10 _ rfl)
      go_wp2_with (refine wpList_value rfl (exec_eqS rfl rfl rfl (b := true) E0.out) ?_)
      refine (Calls.mono (rYes_any _ _)) ?_
      rintro e _ ⟨rfl, rfl⟩
      go_wp2
      go_ret
      exact ⟨rfl, F.out.1, F.out.2⟩
    · have S4 := hB.set 6 (.bool true)
      simp only [List.set_cons_zero, List.set_cons_succ] at S4
      have F : Hid _ := And.intro (turned_set w g 6 (.bool true)) S4
      have z0 := ck_at hB 0
      have z1 := ck_at hB 1
      have z2 := ck_at hB 2
      have z3 := ck_at hB 3
      have z4 := ck_at hB 4
      have z5 := ck_at hB 5
      have z6 := ck_at hB 6
      have z7 := ck_at hB 7
      have z8 := ck_at hB 8
      have z9 := ck_at hB 9
      have z10 := ck_at hB 10
      simp only [List.getElem?_cons_zero, List.getElem?_cons_succ] at z0 z1 z2 z3 z4 z5 z6 z7 z8 z9 z10
      have fz := ck_fz hB 6
      clear S4 hB
      go_enter Tryd.func53, Tryd.ntmps53
      go_upto_region 2 with fail
      have E0 : Hid _ := (HK.out 10 _ rfl)
      go_wp2_with (refine wpList_value rfl (exec_eqS rfl rfl rfl (b := true) E0.out) ?_)
      refine (Calls.mono (rYes_any _ _)) ?_
      rintro e _ ⟨rfl, rfl⟩
      go_wp2
      go_ret
      exact ⟨rfl, F.out.1, F.out.2⟩
  · cases b
    · have S4 := hB.set 6 (.bool true)
      simp only [List.set_cons_zero, List.set_cons_succ] at S4
      have F : Hid _ := And.intro (turned_set w g 6 (.bool true)) S4
      have z0 := ck_at hB 0
      have z1 := ck_at hB 1
      have z2 := ck_at hB 2
      have z3 := ck_at hB 3
      have z4 := ck_at hB 4
      have z5 := ck_at hB 5
      have z6 := ck_at hB 6
      have z7 := ck_at hB 7
      have z8 := ck_at hB 8
      have z9 := ck_at hB 9
      have z10 := ck_at hB 10
      simp only [List.getElem?_cons_zero, List.getElem?_cons_succ] at z0 z1 z2 z3 z4 z5 z6 z7 z8 z9 z10
      have fz := ck_fz hB 6
      clear S4 hB
      go_enter Tryd.func53, Tryd.ntmps53
      go_upto_region 2 with fail
      have E0 : Hid _ := (HK.out 10 _ rfl)
      go_wp2_with (refine wpList_value rfl (exec_eqS rfl rfl rfl (b := true) E0.out) ?_)
      refine (Calls.mono (rYes_any _ _)) ?_
      rintro e _ ⟨rfl, rfl⟩
      go_wp2
      go_ret
      exact ⟨rfl, F.out.1, F.out.2⟩
    · have S4 := hB.set 6 (.bool true)
      simp only [List.set_cons_zero, List.set_cons_succ] at S4
      have F : Hid _ := And.intro (turned_set w g 6 (.bool true)) S4
      have z0 := ck_at hB 0
      have z1 := ck_at hB 1
      have z2 := ck_at hB 2
      have z3 := ck_at hB 3
      have z4 := ck_at hB 4
      have z5 := ck_at hB 5
      have z6 := ck_at hB 6
      have z7 := ck_at hB 7
      have z8 := ck_at hB 8
      have z9 := ck_at hB 9
      have z10 := ck_at hB 10
      simp only [List.getElem?_cons_zero, List.getElem?_cons_succ] at z0 z1 z2 z3 z4 z5 z6 z7 z8 z9 z10
      have fz := ck_fz hB 6
      clear S4 hB
      go_enter Tryd.func53, Tryd.ntmps53
      go_upto_region 2 with fail
      have E0 : Hid _ := (HK.out 10 _ rfl)
      go_wp2_with (refine wpList_value rfl (exec_eqS rfl rfl rfl (b := true) E0.out) ?_)
      refine (Calls.mono (rYes_any _ _)) ?_
      rintro e _ ⟨rfl, rfl⟩
      go_wp2
      go_ret
      exact ⟨rfl, F.out.1, F.out.2⟩
set_option maxHeartbeats 4000000 in
theorem rFl_11 (g : Nat) (p : Pm18) (k : ByteArray) (b : Bool) (w : World) (hk : KF k 11) (hB : Blk w g 48 p.c) : Calls Tryd.prog 53 #[.pointer (some ⟨g, 0, none⟩), .string k, .bool b] w fun e w' => e = .returned (.string (flM 11 p b).2) ∧ Turned (fun k => k = g) w w' ∧ Blk w' g 48 (flM 11 p b).1.c := by
  have HK : Hid _ := hk
  clear hk
  obtain ⟨phs, pds, pmo, pmi, pbu, pfi, pa, pim, pdi, pini, ptgt⟩ := p
  unfold Pm18.c at hB
  simp only at hB
  cases pim
  · cases b
    · have S4 := hB.set 7 (.bool false)
      simp only [List.set_cons_zero, List.set_cons_succ] at S4
      have F : Hid _ := And.intro (turned_set w g 7 (.bool false)) S4
      have z0 := ck_at hB 0
      have z1 := ck_at hB 1
      have z2 := ck_at hB 2
      have z3 := ck_at hB 3
      have z4 := ck_at hB 4
      have z5 := ck_at hB 5
      have z6 := ck_at hB 6
      have z7 := ck_at hB 7
      have z8 := ck_at hB 8
      have z9 := ck_at hB 9
      have z10 := ck_at hB 10
      simp only [List.getElem?_cons_zero, List.getElem?_cons_succ] at z0 z1 z2 z3 z4 z5 z6 z7 z8 z9 z10
      have fz := ck_fz hB 7
      clear S4 hB
      go_enter Tryd.func53, Tryd.ntmps53
      go_upto_region 2 with fail
      have E0 : Hid _ := (HK.out 10 _ rfl)
      go_upto_region 5 with (refine wpList_value rfl (exec_eqS rfl rfl rfl (b := false) E0.out) ?_)
      clear E0
      have E1 : Hid _ := (HK.out 11 _ rfl)
      go_wp2_with (refine wpList_value rfl (exec_eqS rfl rfl rfl (b := true) E1.out) ?_)
      refine (Calls.mono (rYes_any _ _)) ?_
      rintro e _ ⟨rfl, rfl⟩
      go_wp2
      go_ret
      exact ⟨rfl, F.out.1, F.out.2⟩
    · have S4 := hB.set 7 (.bool false)
      simp only [List.set_cons_zero, List.set_cons_succ] at S4
      have F : Hid _ := And.intro (turned_set w g 7 (.bool false)) S4
      have z0 := ck_at hB 0
      have z1 := ck_at hB 1
      have z2 := ck_at hB 2
      have z3 := ck_at hB 3
      have z4 := ck_at hB 4
      have z5 := ck_at hB 5
      have z6 := ck_at hB 6
      have z7 := ck_at hB 7
      have z8 := ck_at hB 8
      have z9 := ck_at hB 9
      have z10 := ck_at hB 10
      simp only [List.getElem?_cons_zero, List.getElem?_cons_succ] at z0 z1 z2 z3 z4 z5 z6 z7 z8 z9 z10
      have fz := ck_fz hB 7
      clear S4 hB
      go_enter Tryd.func53, Tryd.ntmps53
      go_upto_region 2 with fail
      have E0 : Hid _ := (HK.out 10 _ rfl)
      go_upto_region 5 with (refine wpList_value rfl (exec_eqS rfl rfl rfl (b := false) E0.out) ?_)
      clear E0
      have E1 : Hid _ := (HK.out 11 _ rfl)
      go_wp2_with (refine wpList_value rfl (exec_eqS rfl rfl rfl (b := true) E1.out) ?_)
      refine (Calls.mono (rYes_any _ _)) ?_
      rintro e _ ⟨rfl, rfl⟩
      go_wp2
      go_ret
      exact ⟨rfl, F.out.1, F.out.2⟩
  · cases b
    · have S4 := hB.set 7 (.bool false)
      simp only [List.set_cons_zero, List.set_cons_succ] at S4
      have F : Hid _ := And.intro (turned_set w g 7 (.bool false)) S4
      have z0 := ck_at hB 0
      have z1 := ck_at hB 1
      have z2 := ck_at hB 2
      have z3 := ck_at hB 3
      have z4 := ck_at hB 4
      have z5 := ck_at hB 5
      have z6 := ck_at hB 6
      have z7 := ck_at hB 7
      have z8 := ck_at hB 8
      have z9 := ck_at hB 9
      have z10 := ck_at hB 10
      simp only [List.getElem?_cons_zero, List.getElem?_cons_succ] at z0 z1 z2 z3 z4 z5 z6 z7 z8 z9 z10
      have fz := ck_fz hB 7
      clear S4 hB
      go_enter Tryd.func53, Tryd.ntmps53
      go_upto_region 2 with fail
      have E0 : Hid _ := (HK.out 10 _ rfl)
      go_upto_region 5 with (refine wpList_value rfl (exec_eqS rfl rfl rfl (b := false) E0.out) ?_)
      clear E0
      have E1 : Hid _ := (HK.out 11 _ rfl)
      go_wp2_with (refine wpList_value rfl (exec_eqS rfl rfl rfl (b := true) E1.out) ?_)
      refine (Calls.mono (rYes_any _ _)) ?_
      rintro e _ ⟨rfl, rfl⟩
      go_wp2
      go_ret
      exact ⟨rfl, F.out.1, F.out.2⟩
    · have S4 := hB.set 7 (.bool true)
      simp only [List.set_cons_zero, List.set_cons_succ] at S4
      have F : Hid _ := And.intro (turned_set w g 7 (.bool true)) S4
      have z0 := ck_at hB 0
      have z1 := ck_at hB 1
      have z2 := ck_at hB 2
      have z3 := ck_at hB 3
      have z4 := ck_at hB 4
      have z5 := ck_at hB 5
      have z6 := ck_at hB 6
      have z7 := ck_at hB 7
      have z8 := ck_at hB 8
      have z9 := ck_at hB 9
      have z10 := ck_at hB 10
      simp only [List.getElem?_cons_zero, List.getElem?_cons_succ] at z0 z1 z2 z3 z4 z5 z6 z7 z8 z9 z10
      have fz := ck_fz hB 7
      clear S4 hB
      go_enter Tryd.func53, Tryd.ntmps53
      go_upto_region 2 with fail
      have E0 : Hid _ := (HK.out 10 _ rfl)
      go_upto_region 5 with (refine wpList_value rfl (exec_eqS rfl rfl rfl (b := false) E0.out) ?_)
      clear E0
      have E1 : Hid _ := (HK.out 11 _ rfl)
      go_wp2_with (refine wpList_value rfl (exec_eqS rfl rfl rfl (b := true) E1.out) ?_)
      refine (Calls.mono (rYes_any _ _)) ?_
      rintro e _ ⟨rfl, rfl⟩
      go_wp2
      go_ret
      exact ⟨rfl, F.out.1, F.out.2⟩
set_option maxHeartbeats 4000000 in
theorem rFl_12 (g : Nat) (p : Pm18) (k : ByteArray) (b : Bool) (w : World) (hk : KF k 12) (hB : Blk w g 48 p.c) : Calls Tryd.prog 53 #[.pointer (some ⟨g, 0, none⟩), .string k, .bool b] w fun e w' => e = .returned (.string (flM 12 p b).2) ∧ Turned (fun k => k = g) w w' ∧ Blk w' g 48 (flM 12 p b).1.c := by
  have HK : Hid _ := hk
  clear hk
  have F : Hid _ := And.intro (Turned.refl18 (fun k => k = g) w) hB
  clear hB
  go_enter Tryd.func53, Tryd.ntmps53
  go_upto_region 2 with fail
  have E0 : Hid _ := (HK.out 10 _ rfl)
  go_upto_region 5 with (refine wpList_value rfl (exec_eqS rfl rfl rfl (b := false) E0.out) ?_)
  clear E0
  have E1 : Hid _ := (HK.out 11 _ rfl)
  go_upto_region 8 with (refine wpList_value rfl (exec_eqS rfl rfl rfl (b := false) E1.out) ?_)
  clear E1
  have E2 : Hid _ := (HK.out 17 _ rfl)
  go_upto_region 9 with (refine wpList_value rfl (exec_eqS rfl rfl rfl (b := false) E2.out) ?_)
  clear E2
  have E3 : Hid _ := (HK.out 18 _ rfl)
  go_upto_region 11 with (refine wpList_value rfl (exec_eqS rfl rfl rfl (b := false) E3.out) ?_)
  clear E3
  have E4 : Hid _ := (HK.out 19 _ rfl)
  go_upto_region 12 with (refine wpList_value rfl (exec_eqS rfl rfl rfl (b := false) E4.out) ?_)
  clear E4
  have E5 : Hid _ := (HK.out 20 _ rfl)
  go_wp2_with (refine wpList_value rfl (exec_eqS rfl rfl rfl (b := false) E5.out) ?_)
  go_ret
  exact ⟨rfl, F.out.1, F.out.2⟩
set_option maxHeartbeats 4000000 in
theorem rFl_13 (g : Nat) (p : Pm18) (k : ByteArray) (b : Bool) (w : World) (hk : KF k 13) (hB : Blk w g 48 p.c) : Calls Tryd.prog 53 #[.pointer (some ⟨g, 0, none⟩), .string k, .bool b] w fun e w' => e = .returned (.string (flM 13 p b).2) ∧ Turned (fun k => k = g) w w' ∧ Blk w' g 48 (flM 13 p b).1.c := by
  have HK : Hid _ := hk
  clear hk
  have F : Hid _ := And.intro (Turned.refl18 (fun k => k = g) w) hB
  clear hB
  go_enter Tryd.func53, Tryd.ntmps53
  go_upto_region 2 with fail
  have E0 : Hid _ := (HK.out 10 _ rfl)
  go_upto_region 5 with (refine wpList_value rfl (exec_eqS rfl rfl rfl (b := false) E0.out) ?_)
  clear E0
  have E1 : Hid _ := (HK.out 11 _ rfl)
  go_upto_region 8 with (refine wpList_value rfl (exec_eqS rfl rfl rfl (b := false) E1.out) ?_)
  clear E1
  have E2 : Hid _ := (HK.out 17 _ rfl)
  go_upto_region 9 with (refine wpList_value rfl (exec_eqS rfl rfl rfl (b := false) E2.out) ?_)
  clear E2
  have E3 : Hid _ := (HK.out 18 _ rfl)
  go_upto_region 11 with (refine wpList_value rfl (exec_eqS rfl rfl rfl (b := false) E3.out) ?_)
  clear E3
  have E4 : Hid _ := (HK.out 19 _ rfl)
  go_upto_region 12 with (refine wpList_value rfl (exec_eqS rfl rfl rfl (b := false) E4.out) ?_)
  clear E4
  have E5 : Hid _ := (HK.out 20 _ rfl)
  go_wp2_with (refine wpList_value rfl (exec_eqS rfl rfl rfl (b := false) E5.out) ?_)
  go_ret
  exact ⟨rfl, F.out.1, F.out.2⟩
set_option maxHeartbeats 4000000 in
theorem rFl_14 (g : Nat) (p : Pm18) (k : ByteArray) (b : Bool) (w : World) (hk : KF k 14) (hB : Blk w g 48 p.c) : Calls Tryd.prog 53 #[.pointer (some ⟨g, 0, none⟩), .string k, .bool b] w fun e w' => e = .returned (.string (flM 14 p b).2) ∧ Turned (fun k => k = g) w w' ∧ Blk w' g 48 (flM 14 p b).1.c := by
  have HK : Hid _ := hk
  clear hk
  have F : Hid _ := And.intro (Turned.refl18 (fun k => k = g) w) hB
  clear hB
  go_enter Tryd.func53, Tryd.ntmps53
  go_upto_region 2 with fail
  have E0 : Hid _ := (HK.out 10 _ rfl)
  go_upto_region 5 with (refine wpList_value rfl (exec_eqS rfl rfl rfl (b := false) E0.out) ?_)
  clear E0
  have E1 : Hid _ := (HK.out 11 _ rfl)
  go_upto_region 8 with (refine wpList_value rfl (exec_eqS rfl rfl rfl (b := false) E1.out) ?_)
  clear E1
  have E2 : Hid _ := (HK.out 17 _ rfl)
  go_upto_region 9 with (refine wpList_value rfl (exec_eqS rfl rfl rfl (b := false) E2.out) ?_)
  clear E2
  have E3 : Hid _ := (HK.out 18 _ rfl)
  go_upto_region 11 with (refine wpList_value rfl (exec_eqS rfl rfl rfl (b := false) E3.out) ?_)
  clear E3
  have E4 : Hid _ := (HK.out 19 _ rfl)
  go_upto_region 12 with (refine wpList_value rfl (exec_eqS rfl rfl rfl (b := false) E4.out) ?_)
  clear E4
  have E5 : Hid _ := (HK.out 20 _ rfl)
  go_wp2_with (refine wpList_value rfl (exec_eqS rfl rfl rfl (b := false) E5.out) ?_)
  go_ret
  exact ⟨rfl, F.out.1, F.out.2⟩
set_option maxHeartbeats 4000000 in
theorem rFl_15 (g : Nat) (p : Pm18) (k : ByteArray) (b : Bool) (w : World) (hk : KF k 15) (hB : Blk w g 48 p.c) : Calls Tryd.prog 53 #[.pointer (some ⟨g, 0, none⟩), .string k, .bool b] w fun e w' => e = .returned (.string (flM 15 p b).2) ∧ Turned (fun k => k = g) w w' ∧ Blk w' g 48 (flM 15 p b).1.c := by
  have HK : Hid _ := hk
  clear hk
  have F : Hid _ := And.intro (Turned.refl18 (fun k => k = g) w) hB
  clear hB
  go_enter Tryd.func53, Tryd.ntmps53
  go_upto_region 2 with fail
  have E0 : Hid _ := (HK.out 10 _ rfl)
  go_upto_region 5 with (refine wpList_value rfl (exec_eqS rfl rfl rfl (b := false) E0.out) ?_)
  clear E0
  have E1 : Hid _ := (HK.out 11 _ rfl)
  go_upto_region 8 with (refine wpList_value rfl (exec_eqS rfl rfl rfl (b := false) E1.out) ?_)
  clear E1
  have E2 : Hid _ := (HK.out 17 _ rfl)
  go_upto_region 9 with (refine wpList_value rfl (exec_eqS rfl rfl rfl (b := false) E2.out) ?_)
  clear E2
  have E3 : Hid _ := (HK.out 18 _ rfl)
  go_upto_region 11 with (refine wpList_value rfl (exec_eqS rfl rfl rfl (b := false) E3.out) ?_)
  clear E3
  have E4 : Hid _ := (HK.out 19 _ rfl)
  go_upto_region 12 with (refine wpList_value rfl (exec_eqS rfl rfl rfl (b := false) E4.out) ?_)
  clear E4
  have E5 : Hid _ := (HK.out 20 _ rfl)
  go_wp2_with (refine wpList_value rfl (exec_eqS rfl rfl rfl (b := false) E5.out) ?_)
  go_ret
  exact ⟨rfl, F.out.1, F.out.2⟩
set_option maxHeartbeats 4000000 in
theorem rFl_16 (g : Nat) (p : Pm18) (k : ByteArray) (b : Bool) (w : World) (hk : KF k 16) (hB : Blk w g 48 p.c) : Calls Tryd.prog 53 #[.pointer (some ⟨g, 0, none⟩), .string k, .bool b] w fun e w' => e = .returned (.string (flM 16 p b).2) ∧ Turned (fun k => k = g) w w' ∧ Blk w' g 48 (flM 16 p b).1.c := by
  have HK : Hid _ := hk
  clear hk
  have F : Hid _ := And.intro (Turned.refl18 (fun k => k = g) w) hB
  clear hB
  go_enter Tryd.func53, Tryd.ntmps53
  go_upto_region 2 with fail
  have E0 : Hid _ := (HK.out 10 _ rfl)
  go_upto_region 5 with (refine wpList_value rfl (exec_eqS rfl rfl rfl (b := false) E0.out) ?_)
  clear E0
  have E1 : Hid _ := (HK.out 11 _ rfl)
  go_upto_region 8 with (refine wpList_value rfl (exec_eqS rfl rfl rfl (b := false) E1.out) ?_)
  clear E1
  have E2 : Hid _ := (HK.out 17 _ rfl)
  go_upto_region 9 with (refine wpList_value rfl (exec_eqS rfl rfl rfl (b := false) E2.out) ?_)
  clear E2
  have E3 : Hid _ := (HK.out 18 _ rfl)
  go_upto_region 11 with (refine wpList_value rfl (exec_eqS rfl rfl rfl (b := false) E3.out) ?_)
  clear E3
  have E4 : Hid _ := (HK.out 19 _ rfl)
  go_upto_region 12 with (refine wpList_value rfl (exec_eqS rfl rfl rfl (b := false) E4.out) ?_)
  clear E4
  have E5 : Hid _ := (HK.out 20 _ rfl)
  go_wp2_with (refine wpList_value rfl (exec_eqS rfl rfl rfl (b := false) E5.out) ?_)
  go_ret
  exact ⟨rfl, F.out.1, F.out.2⟩
set_option maxHeartbeats 4000000 in
theorem rFl_17 (g : Nat) (p : Pm18) (k : ByteArray) (b : Bool) (w : World) (hk : KF k 17) (hB : Blk w g 48 p.c) : Calls Tryd.prog 53 #[.pointer (some ⟨g, 0, none⟩), .string k, .bool b] w fun e w' => e = .returned (.string (flM 17 p b).2) ∧ Turned (fun k => k = g) w w' ∧ Blk w' g 48 (flM 17 p b).1.c := by
  have HK : Hid _ := hk
  clear hk
  have F : Hid _ := And.intro (Turned.refl18 (fun k => k = g) w) hB
  clear hB
  go_enter Tryd.func53, Tryd.ntmps53
  go_upto_region 2 with fail
  have E0 : Hid _ := (HK.out 10 _ rfl)
  go_upto_region 5 with (refine wpList_value rfl (exec_eqS rfl rfl rfl (b := false) E0.out) ?_)
  clear E0
  have E1 : Hid _ := (HK.out 11 _ rfl)
  go_upto_region 8 with (refine wpList_value rfl (exec_eqS rfl rfl rfl (b := false) E1.out) ?_)
  clear E1
  have E2 : Hid _ := (HK.out 17 _ rfl)
  go_wp2_with (refine wpList_value rfl (exec_eqS rfl rfl rfl (b := true) E2.out) ?_)
  go_ret
  exact ⟨rfl, F.out.1, F.out.2⟩
set_option maxHeartbeats 4000000 in
theorem rFl_18 (g : Nat) (p : Pm18) (k : ByteArray) (b : Bool) (w : World) (hk : KF k 18) (hB : Blk w g 48 p.c) : Calls Tryd.prog 53 #[.pointer (some ⟨g, 0, none⟩), .string k, .bool b] w fun e w' => e = .returned (.string (flM 18 p b).2) ∧ Turned (fun k => k = g) w w' ∧ Blk w' g 48 (flM 18 p b).1.c := by
  have HK : Hid _ := hk
  clear hk
  have F : Hid _ := And.intro (Turned.refl18 (fun k => k = g) w) hB
  clear hB
  go_enter Tryd.func53, Tryd.ntmps53
  go_upto_region 2 with fail
  have E0 : Hid _ := (HK.out 10 _ rfl)
  go_upto_region 5 with (refine wpList_value rfl (exec_eqS rfl rfl rfl (b := false) E0.out) ?_)
  clear E0
  have E1 : Hid _ := (HK.out 11 _ rfl)
  go_upto_region 8 with (refine wpList_value rfl (exec_eqS rfl rfl rfl (b := false) E1.out) ?_)
  clear E1
  have E2 : Hid _ := (HK.out 17 _ rfl)
  go_upto_region 9 with (refine wpList_value rfl (exec_eqS rfl rfl rfl (b := false) E2.out) ?_)
  clear E2
  have E3 : Hid _ := (HK.out 18 _ rfl)
  go_wp2_with (refine wpList_value rfl (exec_eqS rfl rfl rfl (b := true) E3.out) ?_)
  go_ret
  exact ⟨rfl, F.out.1, F.out.2⟩
set_option maxHeartbeats 4000000 in
theorem rFl_19 (g : Nat) (p : Pm18) (k : ByteArray) (b : Bool) (w : World) (hk : KF k 19) (hB : Blk w g 48 p.c) : Calls Tryd.prog 53 #[.pointer (some ⟨g, 0, none⟩), .string k, .bool b] w fun e w' => e = .returned (.string (flM 19 p b).2) ∧ Turned (fun k => k = g) w w' ∧ Blk w' g 48 (flM 19 p b).1.c := by
  have HK : Hid _ := hk
  clear hk
  have F : Hid _ := And.intro (Turned.refl18 (fun k => k = g) w) hB
  clear hB
  go_enter Tryd.func53, Tryd.ntmps53
  go_upto_region 2 with fail
  have E0 : Hid _ := (HK.out 10 _ rfl)
  go_upto_region 5 with (refine wpList_value rfl (exec_eqS rfl rfl rfl (b := false) E0.out) ?_)
  clear E0
  have E1 : Hid _ := (HK.out 11 _ rfl)
  go_upto_region 8 with (refine wpList_value rfl (exec_eqS rfl rfl rfl (b := false) E1.out) ?_)
  clear E1
  have E2 : Hid _ := (HK.out 17 _ rfl)
  go_upto_region 9 with (refine wpList_value rfl (exec_eqS rfl rfl rfl (b := false) E2.out) ?_)
  clear E2
  have E3 : Hid _ := (HK.out 18 _ rfl)
  go_upto_region 11 with (refine wpList_value rfl (exec_eqS rfl rfl rfl (b := false) E3.out) ?_)
  clear E3
  have E4 : Hid _ := (HK.out 19 _ rfl)
  go_wp2_with (refine wpList_value rfl (exec_eqS rfl rfl rfl (b := true) E4.out) ?_)
  go_ret
  exact ⟨rfl, F.out.1, F.out.2⟩
set_option maxHeartbeats 4000000 in
theorem rFl_20 (g : Nat) (p : Pm18) (k : ByteArray) (b : Bool) (w : World) (hk : KF k 20) (hB : Blk w g 48 p.c) : Calls Tryd.prog 53 #[.pointer (some ⟨g, 0, none⟩), .string k, .bool b] w fun e w' => e = .returned (.string (flM 20 p b).2) ∧ Turned (fun k => k = g) w w' ∧ Blk w' g 48 (flM 20 p b).1.c := by
  have HK : Hid _ := hk
  clear hk
  have F : Hid _ := And.intro (Turned.refl18 (fun k => k = g) w) hB
  clear hB
  go_enter Tryd.func53, Tryd.ntmps53
  go_upto_region 2 with fail
  have E0 : Hid _ := (HK.out 10 _ rfl)
  go_upto_region 5 with (refine wpList_value rfl (exec_eqS rfl rfl rfl (b := false) E0.out) ?_)
  clear E0
  have E1 : Hid _ := (HK.out 11 _ rfl)
  go_upto_region 8 with (refine wpList_value rfl (exec_eqS rfl rfl rfl (b := false) E1.out) ?_)
  clear E1
  have E2 : Hid _ := (HK.out 17 _ rfl)
  go_upto_region 9 with (refine wpList_value rfl (exec_eqS rfl rfl rfl (b := false) E2.out) ?_)
  clear E2
  have E3 : Hid _ := (HK.out 18 _ rfl)
  go_upto_region 11 with (refine wpList_value rfl (exec_eqS rfl rfl rfl (b := false) E3.out) ?_)
  clear E3
  have E4 : Hid _ := (HK.out 19 _ rfl)
  go_upto_region 12 with (refine wpList_value rfl (exec_eqS rfl rfl rfl (b := false) E4.out) ?_)
  clear E4
  have E5 : Hid _ := (HK.out 20 _ rfl)
  go_wp2_with (refine wpList_value rfl (exec_eqS rfl rfl rfl (b := true) E5.out) ?_)
  go_ret
  exact ⟨rfl, F.out.1, F.out.2⟩
set_option maxHeartbeats 4000000 in
theorem rFl_21 (g : Nat) (p : Pm18) (k : ByteArray) (b : Bool) (w : World) (hk : KF k 21) (hB : Blk w g 48 p.c) : Calls Tryd.prog 53 #[.pointer (some ⟨g, 0, none⟩), .string k, .bool b] w fun e w' => e = .returned (.string (flM 21 p b).2) ∧ Turned (fun k => k = g) w w' ∧ Blk w' g 48 (flM 21 p b).1.c := by
  have HK : Hid _ := hk
  clear hk
  have F : Hid _ := And.intro (Turned.refl18 (fun k => k = g) w) hB
  clear hB
  go_enter Tryd.func53, Tryd.ntmps53
  go_upto_region 2 with fail
  have E0 : Hid _ := (HK.out 10 _ rfl)
  go_upto_region 5 with (refine wpList_value rfl (exec_eqS rfl rfl rfl (b := false) E0.out) ?_)
  clear E0
  have E1 : Hid _ := (HK.out 11 _ rfl)
  go_upto_region 8 with (refine wpList_value rfl (exec_eqS rfl rfl rfl (b := false) E1.out) ?_)
  clear E1
  have E2 : Hid _ := (HK.out 17 _ rfl)
  go_upto_region 9 with (refine wpList_value rfl (exec_eqS rfl rfl rfl (b := false) E2.out) ?_)
  clear E2
  have E3 : Hid _ := (HK.out 18 _ rfl)
  go_upto_region 11 with (refine wpList_value rfl (exec_eqS rfl rfl rfl (b := false) E3.out) ?_)
  clear E3
  have E4 : Hid _ := (HK.out 19 _ rfl)
  go_upto_region 12 with (refine wpList_value rfl (exec_eqS rfl rfl rfl (b := false) E4.out) ?_)
  clear E4
  have E5 : Hid _ := (HK.out 20 _ rfl)
  go_wp2_with (refine wpList_value rfl (exec_eqS rfl rfl rfl (b := false) E5.out) ?_)
  go_ret
  exact ⟨rfl, F.out.1, F.out.2⟩
theorem rFlag_any (g : Nat) (p : Pm18) (k : ByteArray) (b : Bool) (w : World) (hB : Blk w g 48 p.c) : Calls Tryd.prog 53 #[.pointer (some ⟨g, 0, none⟩), .string k, .bool b] w fun e w' => e = .returned (.string (flM (keyIx k) p b).2) ∧ Turned (fun k => k = g) w w' ∧ Blk w' g 48 (flM (keyIx k) p b).1.c := by
  have hl : keyIx k ≤ 21 := (kf_any k).2
  have hk : KF k (keyIx k) := (kf_any k).1
  generalize keyIx k = j at *
  rcases nat22 hl with rfl | rfl | rfl | rfl | rfl | rfl | rfl | rfl | rfl | rfl | rfl | rfl | rfl | rfl | rfl | rfl | rfl | rfl | rfl | rfl | rfl | rfl
  · exact rFl_0 g p k b w hk hB
  · exact rFl_1 g p k b w hk hB
  · exact rFl_2 g p k b w hk hB
  · exact rFl_3 g p k b w hk hB
  · exact rFl_4 g p k b w hk hB
  · exact rFl_5 g p k b w hk hB
  · exact rFl_6 g p k b w hk hB
  · exact rFl_7 g p k b w hk hB
  · exact rFl_8 g p k b w hk hB
  · exact rFl_9 g p k b w hk hB
  · exact rFl_10 g p k b w hk hB
  · exact rFl_11 g p k b w hk hB
  · exact rFl_12 g p k b w hk hB
  · exact rFl_13 g p k b w hk hB
  · exact rFl_14 g p k b w hk hB
  · exact rFl_15 g p k b w hk hB
  · exact rFl_16 g p k b w hk hB
  · exact rFl_17 g p k b w hk hB
  · exact rFl_18 g p k b w hk hB
  · exact rFl_19 g p k b w hk hB
  · exact rFl_20 g p k b w hk hB
  · exact rFl_21 g p k b w hk hB
end Go.Proofs.YtligmiajlbjecaaDoor
