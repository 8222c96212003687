/- text: facts of Talk; params. -/
import Derived.Test.YtligmiajlbjecaaDoorXTy6
import Derived.Test.YtligmiajlbjecaaDoorXTx14
import Derived.BigQuiet
namespace Go.Proofs.YtligmiajlbjecaaDoor
open Go.RowKit
set_option linter.unusedVariables false
set_option linter.unusedSimpArgs false
set_option maxRecDepth 8000

/-- nothing is greater than it was -/
structure LessP (p q : Pm18) : Prop where
  mi : q.mi = p.mi
  bu : q.bu ≤ p.bu
  fi : q.fi ≤ p.fi
  mo : 512 ≤ p.mo ∧ p.mo ≤ 65536 → 512 ≤ q.mo ∧ q.mo ≤ 65536
  asd : p.a = true → q.a = true
  ims : q.imd = true → p.imd = true
theorem LessP.refl (p : Pm18) : LessP p p := ⟨rfl, by omega, by omega, id, id, id⟩
theorem LessP.trans {p q r : Pm18} (h : LessP p q) (k : LessP q r) : LessP p r := ⟨k.mi.trans h.mi, by have := h.bu; have := k.bu; omega, by have := h.fi; have := k.fi; omega, fun x => k.mo (h.mo x), fun x => k.asd (h.asd x), fun x => h.ims (k.ims x)⟩
theorem ag_less (ix : Nat) (hx : ix ≤ 21) (an : ByteArray) (p : Pm18) (v : ByteArray) (ht : takesM (rlI ix) v = true) : LessP p (agM ix an p v).1 := by
  rcases nat22 hx with rfl | rfl | rfl | rfl | rfl | rfl | rfl | rfl | rfl | rfl | rfl | rfl | rfl | rfl | rfl | rfl | rfl | rfl | rfl | rfl | rfl | rfl
  · exact ⟨rfl, Int.le_refl _, Int.le_refl _, id, id, id⟩
  · exact ⟨rfl, Int.le_refl _, Int.le_refl _, id, id, id⟩
  · exact ⟨rfl, Int.le_refl _, Int.le_refl _, id, id, id⟩
  · exact ⟨rfl, Int.le_refl _, Int.le_refl _, id, id, id⟩
  · exact ⟨rfl, Int.le_refl _, Int.le_refl _, id, id, id⟩
  · show LessP p (if _ then p else _)
    split
    · exact LessP.refl _
    · exact ⟨rfl, Int.le_refl _, Int.le_refl _, id, id, id⟩
  · show LessP p (if _ then p else _)
    split
    · exact LessP.refl _
    · exact ⟨rfl, Int.le_refl _, Int.le_refl _, id, id, id⟩
  · have h : takesM (rlI 7) v = ((nuR v.data.toList).2 == 0 && (decide ((512 : Int) ≤ (nuR v.data.toList).1) && decide ((nuR v.data.toList).1 ≤ 16777215))) := rfl
    rw [h] at ht
    simp only [Bool.and_eq_true, decide_eq_true_eq] at ht
    exact ⟨rfl, Int.le_refl _, Int.le_refl _, fun _ => (by have := ht.2.1; show 512 ≤ min (nuR v.data.toList).1 65536 ∧ min (nuR v.data.toList).1 65536 ≤ 65536; omega), id, id⟩
  · exact ⟨rfl, (by show min _ p.bu ≤ p.bu; omega), Int.le_refl _, id, id, id⟩
  · exact ⟨rfl, Int.le_refl _, (by show min _ p.fi ≤ p.fi; omega), id, id, id⟩
  · exact ⟨rfl, Int.le_refl _, Int.le_refl _, id, (fun h => by show (p.a || _) = true; rw [h]; rfl), id⟩
  · exact ⟨rfl, Int.le_refl _, Int.le_refl _, id, id, (fun h => by have h2 : (p.imd && v.toList == yesS.toList) = true := h; rw [Bool.and_eq_true] at h2; exact h2.1)⟩
  · exact ⟨rfl, Int.le_refl _, Int.le_refl _, id, id, id⟩
  · exact ⟨rfl, Int.le_refl _, Int.le_refl _, id, id, id⟩
  · exact ⟨rfl, Int.le_refl _, Int.le_refl _, id, id, id⟩
  · exact ⟨rfl, Int.le_refl _, Int.le_refl _, id, id, id⟩
  · exact ⟨rfl, Int.le_refl _, Int.le_refl _, id, id, id⟩
  · exact ⟨rfl, Int.le_refl _, Int.le_refl _, id, id, id⟩
  · exact ⟨rfl, Int.le_refl _, Int.le_refl _, id, id, id⟩
  · exact ⟨rfl, Int.le_refl _, Int.le_refl _, id, id, id⟩
  · exact ⟨rfl, Int.le_refl _, Int.le_refl _, id, id, id⟩
  · exact ⟨rfl, Int.le_refl _, Int.le_refl _, id, id, id⟩
theorem one_shape {now : Pm18} {out : List Pr} {x : Pr} {y : Pm18 × List Pr} (h : oneM now out x = some y) : LessP now y.1 ∧ ∃ e, y.2 = out ++ e ∧ (e = [] ∨ ∃ d, e = [(x.1, d)]) := by
  unfold oneM at h
  split at h
  · cases h; exact ⟨LessP.refl _, _, rfl, .inr ⟨_, rfl⟩⟩
  · split at h
    · rename_i ht
      cases h
      refine ⟨ag_less _ (kf_any x.1).2 _ _ _ ht, ?_⟩
      simp only
      split
      · exact ⟨_, rfl, .inr ⟨_, rfl⟩⟩
      · exact ⟨[], by simp, .inl rfl⟩
    · cases h
theorem tkN_shape : ∀ (l : List Pr) (now : Pm18) (out : List Pr) (p' : Pm18) (out' : List Pr), tkN l now out = some (p', out') → LessP now p' ∧ ∃ e, out' = out ++ e ∧ List.Sublist (e.map Prod.fst) (l.map Prod.fst) := by
  intro l
  induction l with
  | nil => intro now out p' out' h; rw [tkN] at h; cases h; exact ⟨LessP.refl _, [], by simp, by simp⟩
  | cons x l ih =>
    intro now out p' out' h
    rw [tkN] at h
    cases hy : oneM now out x with
    | none => rw [hy] at h; cases h
    | some y =>
      rw [hy] at h
      obtain ⟨h1, e, h2, h3⟩ := one_shape hy
      obtain ⟨k1, e2, k2, k3⟩ := ih _ _ _ _ h
      refine ⟨h1.trans k1, e ++ e2, by rw [k2, h2, List.append_assoc], ?_⟩
      rcases h3 with rfl | ⟨d, rfl⟩
      · exact List.Sublist.cons _ k3
      · exact List.Sublist.cons_cons _ k3
theorem talk_no {p : Pm18} {l : List Pr} (h : ¬ (talkM p l).2.2 = 0) : talkM p l = ([], p, 1) := by
  unfold talkM at *
  cases ht : tkN l p [] with
  | none => rfl
  | some y => rw [ht] at h; exact absurd rfl h
theorem talk_yes {p q : Pm18} {l out : List Pr} (h : talkM p l = (out, q, 0)) : LessP p q ∧ q.fi ≤ q.bu ∧ List.Sublist (out.map Prod.fst) (l.map Prod.fst) := by
  unfold talkM at h
  cases ht : tkN l p [] with
  | none => rw [ht] at h; cases h
  | some y =>
    rw [ht] at h
    obtain ⟨now, o⟩ := y
    cases h
    obtain ⟨h1, e, h2, h3⟩ := tkN_shape _ _ _ _ _ ht
    refine ⟨⟨h1.mi, h1.bu, (by have := h1.fi; show min now.fi now.bu ≤ p.fi; omega), h1.mo, h1.asd, h1.ims⟩, (by show min now.fi now.bu ≤ now.bu; omega), ?_⟩
    rw [h2]; simpa using h3
theorem size_rpa : (Tryd.prog.info? 48).map (·.size) = some 11 := by kernel_rfl
set_option maxHeartbeats 4000000 in
theorem tParams_any (p : Pm18) (w : World) : Calls Tryd.prog 24 #[.agg #[.bool p.hs, .bool p.ds, .int .i64 p.mo, .int .i64 p.mi, .int .i64 p.bu, .int .i64 p.fi, .bool p.a, .bool p.imd, .bool p.di, .string p.ini, .string p.tgt]] w fun e w' => e = .returned (.agg #[.bool p.hs, .bool p.ds, .int .i64 p.mo, .int .i64 p.mi, .int .i64 p.bu, .int .i64 p.fi, .bool p.a, .bool p.imd, .bool p.di, .string p.ini, .string p.tgt]) ∧ Below w.heap.size w w' := by
  have N1 := Blk.new' w 50 [.bool p.hs, .bool p.ds, .int .i64 p.mo, .int .i64 p.mi, .int .i64 p.bu, .int .i64 p.fi, .bool p.a, .bool p.imd, .bool p.di, .string p.ini, .string p.tgt]
  have bn1 : Below w.heap.size w (w.alloc (.cells #[.bool p.hs, .bool p.ds, .int .i64 p.mo, .int .i64 p.mi, .int .i64 p.bu, .int .i64 p.fi, .bool p.a, .bool p.imd, .bool p.di, .string p.ini, .string p.tgt] 50)) := (Below.refl _ _).alloc (Nat.le_refl _) _
  obtain ⟨w1, hw1⟩ : ∃ w1, w1 = w.alloc (.cells #[.bool p.hs, .bool p.ds, .int .i64 p.mo, .int .i64 p.mi, .int .i64 p.bu, .int .i64 p.fi, .bool p.a, .bool p.imd, .bool p.di, .string p.ini, .string p.tgt] 50) := ⟨_, rfl⟩
  rw [← hw1] at N1 bn1
  have N2 := Blk.new' w1 48 [.bool false, .bool false, .int .i64 0, .int .i64 0, .int .i64 0, .int .i64 0, .bool false, .bool false, .bool false, .string ⟨#[]⟩, .string ⟨#[]⟩]
  have bn2 : Below w1.heap.size w1 (w1.alloc (.cells #[.bool false, .bool false, .int .i64 0, .int .i64 0, .int .i64 0, .int .i64 0, .bool false, .bool false, .bool false, .string ⟨#[]⟩, .string ⟨#[]⟩] 48)) := (Below.refl _ _).alloc (Nat.le_refl _) _
  obtain ⟨w2, hw2⟩ : ∃ w2, w2 = w1.alloc (.cells #[.bool false, .bool false, .int .i64 0, .int .i64 0, .int .i64 0, .int .i64 0, .bool false, .bool false, .bool false, .string ⟨#[]⟩, .string ⟨#[]⟩] 48) := ⟨_, rfl⟩
  rw [← hw2] at N2 bn2
  have z1 : w1.heap.size = w.heap.size + 1 := by rw [hw1]; simp
  obtain ⟨g, hg⟩ : ∃ g, g = w.heap.size := ⟨_, rfl⟩
  obtain ⟨r, hr⟩ : ∃ r, r = w.heap.size + 1 := ⟨_, rfl⟩
  rw [← hg] at N1
  rw [z1, ← hr] at N2
  have N1b := N1.laterB bn2
  have y0 := ck_at N1b 0
  have y1 := ck_at N1b 1
  have y2 := ck_at N1b 2
  have y3 := ck_at N1b 3
  have y4 := ck_at N1b 4
  have y5 := ck_at N1b 5
  have y6 := ck_at N1b 6
  have y7 := ck_at N1b 7
  have y8 := ck_at N1b 8
  have y9 := ck_at N1b 9
  have y10 := ck_at N1b 10
  simp only [List.getElem?_cons_zero, List.getElem?_cons_succ] at y0 y1 y2 y3 y4 y5 y6 y7 y8 y9 y10
  obtain ⟨w3, st, B3, g3⟩ := storeW (T := 48) (vs := [.bool p.hs, .bool p.ds, .int .i64 p.mo, .int .i64 p.mi, .int .i64 p.bu, .int .i64 p.fi, .bool p.a, .bool p.imd, .bool p.di, .string p.ini, .string p.tgt]) size_rpa N2 rfl (fun u hu => by simp at hu; rcases hu with rfl | rfl | rfl | rfl | rfl | rfl | rfl | rfl | rfl | rfl | rfl <;> rfl)
  have F : Hid _ := And.intro B3 (bel_grown (below_then bn1 bn2) g3 (show w.heap.size ≤ r by omega))
  clear B3 g3 bn1 bn2 N1 N2 N1b z1
  go_enter Tryd.func24, Tryd.ntmps24
  go_upto_region 1 with fail
  rw [← hw1, ← hw2, ← hr, ← hg]
  clear hw1 hw2 hr hg
  go_wp2_with (refine wpList_skip rfl (exec_store rfl rfl rfl st) ?_)
  clear st y0 y1 y2 y3 y4 y5 y6 y7 y8 y9 y10
  have z0 := ck_at F.out.1 0
  have z1 := ck_at F.out.1 1
  have z2 := ck_at F.out.1 2
  have z3 := ck_at F.out.1 3
  have z4 := ck_at F.out.1 4
  have z5 := ck_at F.out.1 5
  have z6 := ck_at F.out.1 6
  have z7 := ck_at F.out.1 7
  have z8 := ck_at F.out.1 8
  have z9 := ck_at F.out.1 9
  have z10 := ck_at F.out.1 10
  simp only [List.getElem?_cons_zero, List.getElem?_cons_succ] at z0 z1 z2 z3 z4 z5 z6 z7 z8 z9 z10
  refine bodyPost_ret (v := .agg #[.bool p.hs, .bool p.ds, .int .i64 p.mo, .int .i64 p.mi, .int .i64 p.bu, .int .i64 p.fi, .bool p.a, .bool p.imd, .bool p.di, .string p.ini, .string p.tgt]) (by simp [results, Tryd.results24, go_sem, z0, z1, z2, z3, z4, z5, z6, z7, z8, z9, z10]) rfl ?_
  exact ⟨rfl, F.out.2⟩
set_option maxHeartbeats 2000000 in
theorem rdefault (w : World) : Calls Tryd.prog 26 #[] w fun e w' => e = .returned (.agg #[.bool false, .bool false, .int .i64 8192, .int .i64 8192, .int .i64 262144, .int .i64 65536, .bool true, .bool true, .bool false, .string ⟨#[]⟩, .string ⟨#[]⟩]) ∧ Below w.heap.size w w' := by
  have b : Below w.heap.size w (w.alloc (.cells #[.bool false, .bool false, .int .i64 8192, .int .i64 8192, .int .i64 262144, .int .i64 65536, .bool true, .bool true, .bool false, .string ⟨#[]⟩, .string ⟨#[]⟩] 48)) := (Below.refl _ _).alloc (Nat.le_refl _) _
  have B := Blk.new' w 48 [.bool false, .bool false, .int .i64 8192, .int .i64 8192, .int .i64 262144, .int .i64 65536, .bool true, .bool true, .bool false, .string ⟨#[]⟩, .string ⟨#[]⟩]
  obtain ⟨w1, hw1⟩ : ∃ w1, w1 = w.alloc (.cells #[.bool false, .bool false, .int .i64 8192, .int .i64 8192, .int .i64 262144, .int .i64 65536, .bool true, .bool true, .bool false, .string ⟨#[]⟩, .string ⟨#[]⟩] 48) := ⟨_, rfl⟩
  rw [← hw1] at b B
  have F : Hid _ := And.intro B b
  clear B b
  go_enter Tryd.func26, Tryd.ntmps26
  go_wp2
  rw [← hw1]
  clear hw1
  have y0 := ck_at F.out.1 0
  have y1 := ck_at F.out.1 1
  have y2 := ck_at F.out.1 2
  have y3 := ck_at F.out.1 3
  have y4 := ck_at F.out.1 4
  have y5 := ck_at F.out.1 5
  have y6 := ck_at F.out.1 6
  have y7 := ck_at F.out.1 7
  have y8 := ck_at F.out.1 8
  have y9 := ck_at F.out.1 9
  have y10 := ck_at F.out.1 10
  simp only [List.getElem?_cons_zero, List.getElem?_cons_succ] at y0 y1 y2 y3 y4 y5 y6 y7 y8 y9 y10
  refine bodyPost_ret (v := .agg #[.bool false, .bool false, .int .i64 8192, .int .i64 8192, .int .i64 262144, .int .i64 65536, .bool true, .bool true, .bool false, .string ⟨#[]⟩, .string ⟨#[]⟩]) (by simp [results, Tryd.results26, go_sem, y0, y1, y2, y3, y4, y5, y6, y7, y8, y9, y10]) rfl ?_
  exact ⟨rfl, F.out.2⟩
set_option maxHeartbeats 2000000 in
theorem eqPa (p : Pm18) (w : World) : Sem.run Tryd.prog (Op.equalIn 10000 48 (.agg #[.bool p.hs, .bool p.ds, .int .i64 p.mo, .int .i64 p.mi, .int .i64 p.bu, .int .i64 p.fi, .bool p.a, .bool p.imd, .bool p.di, .string p.ini, .string p.tgt]) (.agg #[.bool p.hs, .bool p.ds, .int .i64 p.mo, .int .i64 p.mi, .int .i64 p.bu, .int .i64 p.fi, .bool p.a, .bool p.imd, .bool p.di, .string p.ini, .string p.tgt])) w = .ok true w := by
  have ub : Tryd.prog.underlying 4 = some .bool := Tryd.underlying4
  have ui : Tryd.prog.underlying 3 = some (.int .i64) := by kernel_rfl
  have us_ : Tryd.prog.underlying 9 = some .string := Tryd.underlying9
  have pb : Tryd.prog.plainKey 4 = true := by kernel_rfl
  have pi : Tryd.prog.plainKey 3 = true := by kernel_rfl
  have ps : Tryd.prog.plainKey 9 = true := by kernel_rfl
  have hf : (Tryd.prog.fieldsOf 48).toList.map (fun f => (f.name, f.type, f.offset)) = [("HeadSum", 4, 0), ("DataSum", 4, 1), ("MostOut", 3, 2), ("MostIn", 3, 3), ("Burst", 3, 4), ("First", 3, 5), ("Asked", 4, 6), ("Immediate", 4, 7), ("Discovery", 4, 8), ("Initiator", 9, 9), ("Target", 9, 10)] := by kernel_rfl
  rw [run_equalIn_struct w 9999 48 _ _ (by kernel_rfl) (by kernel_rfl)]
  generalize (Tryd.prog.fieldsOf 48).toList = fs at hf
  have hl2 : fs.length = 11 := by have := congrArg List.length hf; simpa using this
  obtain ⟨f0, f1, f2, f3, f4, f5, f6, f7, f8, f9, f10, rfl⟩ : ∃ f0 f1 f2 f3 f4 f5 f6 f7 f8 f9 f10, fs = [f0, f1, f2, f3, f4, f5, f6, f7, f8, f9, f10] := by
    match fs, hl2 with
    | [f0, f1, f2, f3, f4, f5, f6, f7, f8, f9, f10], _ => exact ⟨f0, f1, f2, f3, f4, f5, f6, f7, f8, f9, f10, rfl⟩
  simp only [List.map_cons, List.map_nil, List.cons.injEq, Prod.mk.injEq, and_true] at hf
  obtain ⟨⟨n0, t0, o0⟩, ⟨n1, t1, o1⟩, ⟨n2, t2, o2⟩, ⟨n3, t3, o3⟩, ⟨n4, t4, o4⟩, ⟨n5, t5, o5⟩, ⟨n6, t6, o6⟩, ⟨n7, t7, o7⟩, ⟨n8, t8, o8⟩, ⟨n9, t9, o9⟩, n10, t10, o10⟩ := hf
  have eb : ∀ a b : Bool, Sem.run Tryd.prog (Op.equalIn 9999 4 (.bool a) (.bool b)) w = .ok (a == b) w := fun a b => run_equalIn_bool' w 9998 4 a b ub
  have ei : ∀ a b : Int, Sem.run Tryd.prog (Op.equalIn 9999 3 (.int .i64 a) (.int .i64 b)) w = .ok (a == b) w := fun a b => run_equalIn_int w 9998 3 .i64 .i64 a b ui
  have es : ∀ a b : ByteArray, Sem.run Tryd.prog (Op.equalIn 9999 9 (.string a) (.string b)) w = .ok (a.toList == b.toList) w := fun a b => run_equalIn_string w 9998 9 a b us_
  have h0 : Sem.run Tryd.prog (part 4 #[.bool p.hs, .bool p.ds, .int .i64 p.mo, .int .i64 p.mi, .int .i64 p.bu, .int .i64 p.fi, .bool p.a, .bool p.imd, .bool p.di, .string p.ini, .string p.tgt] 0) w = .ok (.bool p.hs) w := run_part_plain w pb rfl
  have h1 : Sem.run Tryd.prog (part 4 #[.bool p.hs, .bool p.ds, .int .i64 p.mo, .int .i64 p.mi, .int .i64 p.bu, .int .i64 p.fi, .bool p.a, .bool p.imd, .bool p.di, .string p.ini, .string p.tgt] 1) w = .ok (.bool p.ds) w := run_part_plain w pb rfl
  have h2 : Sem.run Tryd.prog (part 3 #[.bool p.hs, .bool p.ds, .int .i64 p.mo, .int .i64 p.mi, .int .i64 p.bu, .int .i64 p.fi, .bool p.a, .bool p.imd, .bool p.di, .string p.ini, .string p.tgt] 2) w = .ok (.int .i64 p.mo) w := run_part_plain w pi rfl
  have h3 : Sem.run Tryd.prog (part 3 #[.bool p.hs, .bool p.ds, .int .i64 p.mo, .int .i64 p.mi, .int .i64 p.bu, .int .i64 p.fi, .bool p.a, .bool p.imd, .bool p.di, .string p.ini, .string p.tgt] 3) w = .ok (.int .i64 p.mi) w := run_part_plain w pi rfl
  have h4 : Sem.run Tryd.prog (part 3 #[.bool p.hs, .bool p.ds, .int .i64 p.mo, .int .i64 p.mi, .int .i64 p.bu, .int .i64 p.fi, .bool p.a, .bool p.imd, .bool p.di, .string p.ini, .string p.tgt] 4) w = .ok (.int .i64 p.bu) w := run_part_plain w pi rfl
  have h5 : Sem.run Tryd.prog (part 3 #[.bool p.hs, .bool p.ds, .int .i64 p.mo, .int .i64 p.mi, .int .i64 p.bu, .int .i64 p.fi, .bool p.a, .bool p.imd, .bool p.di, .string p.ini, .string p.tgt] 5) w = .ok (.int .i64 p.fi) w := run_part_plain w pi rfl
  have h6 : Sem.run Tryd.prog (part 4 #[.bool p.hs, .bool p.ds, .int .i64 p.mo, .int .i64 p.mi, .int .i64 p.bu, .int .i64 p.fi, .bool p.a, .bool p.imd, .bool p.di, .string p.ini, .string p.tgt] 6) w = .ok (.bool p.a) w := run_part_plain w pb rfl
  have h7 : Sem.run Tryd.prog (part 4 #[.bool p.hs, .bool p.ds, .int .i64 p.mo, .int .i64 p.mi, .int .i64 p.bu, .int .i64 p.fi, .bool p.a, .bool p.imd, .bool p.di, .string p.ini, .string p.tgt] 7) w = .ok (.bool p.imd) w := run_part_plain w pb rfl
  have h8 : Sem.run Tryd.prog (part 4 #[.bool p.hs, .bool p.ds, .int .i64 p.mo, .int .i64 p.mi, .int .i64 p.bu, .int .i64 p.fi, .bool p.a, .bool p.imd, .bool p.di, .string p.ini, .string p.tgt] 8) w = .ok (.bool p.di) w := run_part_plain w pb rfl
  have h9 : Sem.run Tryd.prog (part 9 #[.bool p.hs, .bool p.ds, .int .i64 p.mo, .int .i64 p.mi, .int .i64 p.bu, .int .i64 p.fi, .bool p.a, .bool p.imd, .bool p.di, .string p.ini, .string p.tgt] 9) w = .ok (.string p.ini) w := run_part_plain w ps rfl
  have h10 : Sem.run Tryd.prog (part 9 #[.bool p.hs, .bool p.ds, .int .i64 p.mo, .int .i64 p.mi, .int .i64 p.bu, .int .i64 p.fi, .bool p.a, .bool p.imd, .bool p.di, .string p.ini, .string p.tgt] 10) w = .ok (.string p.tgt) w := run_part_plain w ps rfl
  simp only [Op.eqFields, n0, t0, o0, n1, t1, o1, n2, t2, o2, n3, t3, o3, n4, t4, o4, n5, t5, o5, n6, t6, o6, n7, t7, o7, n8, t8, o8, n9, t9, o9, n10, t10, o10, Sem.run_bind, h0, h1, h2, h3, h4, h5, h6, h7, h8, h9, h10, eb, ei, es, Result.andThen_ok, Sem.run_ite, beq_self_eq_true]
  simp
end Go.Proofs.YtligmiajlbjecaaDoor

/- The walk of TextLess. -/
namespace Go.Proofs.YtligmiajlbjecaaDoor
open Go.RowKit
set_option linter.unusedVariables false
set_option linter.unusedSimpArgs false
set_option maxRecDepth 8000

def dfl18 : Pm18 := ⟨false, false, 8192, 8192, 262144, 65536, true, true, false, ⟨#[]⟩, ⟨#[]⟩⟩
theorem sub_nil18 {A : List Pr} {k : Nat} (hk : k ≤ A.length) (h : List.Sublist ((A.drop k).map Prod.fst) ([] : List ByteArray)) : k = A.length := by
  have := h.length_le
  simp at this
  omega
theorem sub_same18 {A M : List Pr} {k i : Nat} (hk : k < A.length) (hi : i < M.length) (h : List.Sublist ((A.drop k).map Prod.fst) ((M.drop i).map Prod.fst)) : List.Sublist ((A.drop (k + 1)).map Prod.fst) ((M.drop (i + 1)).map Prod.fst) := by
  rw [List.drop_eq_getElem_cons hk, List.drop_eq_getElem_cons hi, List.map_cons, List.map_cons] at h
  generalize A[k].1 = a at *
  generalize M[i].1 = b at *
  cases h with
  | cons _ h => exact (List.sublist_cons_self _ _).trans h
  | cons_cons _ h => exact h
theorem sub_other18 {A M : List Pr} {k i : Nat} (hk : k < A.length) (hi : i < M.length) (hne : ¬ A[k].1 = M[i].1) (h : List.Sublist ((A.drop k).map Prod.fst) ((M.drop i).map Prod.fst)) : List.Sublist ((A.drop k).map Prod.fst) ((M.drop (i + 1)).map Prod.fst) := by
  rw [List.drop_eq_getElem_cons hk, List.drop_eq_getElem_cons hi, List.map_cons, List.map_cons] at h
  rw [List.drop_eq_getElem_cons hk, List.map_cons]
  generalize A[k].1 = a at *
  generalize M[i].1 = b at *
  cases h with
  | cons _ h => exact h
  | cons_cons _ h => exact absurd rfl hne
theorem pri_past18b {K : Kd Pr} {w0 w w' : World} {g : Nat} {a : Option Addr} {c : Nat} {l : List Pr} (h : PrI K w0 w (.slice a l.length c) l) (hK : K.Ok) (hg : w.grownBy w' (some g)) (hb : g < w0.heap.size) : GAt K w' (.slice a l.length c) l := by
  obtain ⟨⟨q, hq, hx⟩, -⟩ := h
  exact (hq.turned (turned_grown (R := fun k => k = g) hg (fun k e => by cases e; rfl)) (fun k hk e => by have := hx k hk; omega)).at hK
theorem any_two18 {P : Program} {Q : Exit → Act → World → Prop} {md : Region.Mode} {S : World → Prop} {L : List Oper} {i j : Nat} {oi oj : Oper} {ri rj : List Oper} (hi : L.drop i = oi :: ri) (hj : L.drop j = oj :: rj) {fuel : Nat} {listed : Array Bool} {a : Act} {w : World} (hr : Region.ready md L.toArray listed = [i, j])
    (h1 : ∀ K' : Act → World → Prop, Shut (∀ a w, S w → (S w → wpAnyH P md L.toArray Q S fuel (listed.setIfInBounds i true) a w) → K' a w) → if Region.wanted oi (yielded L.toArray a.tmps) = true then Oper.wp P oi a w K' Q else K' (a.put oi.dst undef) w)
    (h2 : ∀ K' : Act → World → Prop, Shut (∀ a w, S w → (S w → wpAnyH P md L.toArray Q S fuel (listed.setIfInBounds j true) a w) → K' a w) → if Region.wanted oj (yielded L.toArray a.tmps) = true then Oper.wp P oj a w K' Q else K' (a.put oj.dst undef) w) :
    wpAnyH P md L.toArray Q S (fuel + 1) listed a w :=
  wpAnyH_ready hr (by simp) (AllReadyH.cons (drop_at hi) h1 (AllReadyH.cons (drop_at hj) h2 AllReadyH.nil))
theorem pri_keep18 {w0 w w2 : World} {g : Nat} {a : Option Addr} {c : Nat} {l : List Pr} {o : Obj} (h : PrI kPr w0 w (.slice a l.length c) l) (hK : kPr.Ok) (hg : (w.alloc o).grownBy w2 (some g)) (he : g = w.heap.size) : GAt kPr w2 (.slice a l.length c) l := by
  obtain ⟨⟨q, hq, -⟩, -⟩ := h
  refine ((hq.later ((Below.refl _ _).alloc (Nat.le_refl _) _)).turned (turned_grown (R := fun k => k = g) hg (fun k e => by cases e; rfl)) (fun k hk e => ?_)).at hK
  have := hq.lt k hk
  omega
set_option maxHeartbeats 16000000 in
theorem textLess_walk (a0 : Option Addr) (len0 cap0 : Nat) (l : List Pr) (a1 : Option Addr) (len1 cap1 : Nat) (m : List Pr) (w : World) (hP : PowT w) (B0 : PrArg w a0 len0 cap0 l) (B1 : PrArg w a1 len1 cap1 m) :
    Calls Tryd.prog 6 #[.slice a0 len0 cap0, .slice a1 len1 cap1] w fun e w' => e = .returned (.bool true) ∧ Below w.heap.size w w' := by
  obtain ⟨hlen0, hA0, hf0, hs0⟩ := B0
  obtain ⟨hlen1, hA1, hf1, hs1⟩ := B1
  have HA : Hid _ := And.intro hA0 (And.intro hf0 hs0)
  have HM : Hid _ := And.intro hA1 (And.intro hf1 hs1)
  have HN0 : Hid _ := hlen0
  have HN1 : Hid _ := hlen1
  have HP : Hid _ := hP
  clear hA0 hf0 hs0 hA1 hf1 hs1 hP
  have hb : (100 < len0) ∨ (¬ 100 < len0 ∧ 100 < len1) ∨ (len0 ≤ 100 ∧ len1 ≤ 100) := by omega
  clear hlen0 hlen1
  rcases hb with hb | ⟨hb, hb1⟩ | ⟨hb, hb1⟩
  · have t1 : (100 : Int) < (len0 : Int) := by omega
    go_enter Tryd.func6, Tryd.ntmps6
    have FK : Hid _ := Below.refl w.heap.size w
    go_wp2_with fail
    refine (Calls.mono (known18_any w (PowT.later HP.out FK.out))) ?_
    rintro e w9 ⟨rfl, b9⟩
    have F : Hid _ := below_then FK.out b9
    clear b9 FK
    go_wp2
    go_ret
    exact ⟨rfl, F.out⟩
  · have t1 : ¬ (100 : Int) < (len0 : Int) := by omega
    have t2 : (100 : Int) < (len1 : Int) := by omega
    go_enter Tryd.func6, Tryd.ntmps6
    have FK : Hid _ := Below.refl w.heap.size w
    go_wp2_with fail
    refine (Calls.mono (known18_any w (PowT.later HP.out FK.out))) ?_
    rintro e w9 ⟨rfl, b9⟩
    have F : Hid _ := below_then FK.out b9
    clear b9 FK
    go_wp2
    go_ret
    exact ⟨rfl, F.out⟩
  · have t1 : ¬ (100 : Int) < (len0 : Int) := by omega
    have t2 : ¬ (100 : Int) < (len1 : Int) := by omega
    go_enter Tryd.func6, Tryd.ntmps6
    go_wp2_with fail
    refine (Calls.mono (tdefault w)) ?_
    rintro e w1 ⟨rfl, b1⟩
    have B1' : Hid _ := b1
    clear b1
    have HG0 := given18_any a0 cap0 l w1 (gat_later B1'.out HA.out.1) HA.out.2.1
    rw [← HN0.out] at HG0
    have HG : Hid _ := HG0
    clear HG0
    go_wp2_with fail
    refine (Calls.mono (HG.out)) ?_
    rintro e w2 ⟨v2, rfl, I2⟩
    clear HG
    obtain ⟨a2, c2, ez, hA2⟩ := I2.at kPr_ok
    subst ez
    have H2 : Hid _ := below_then B1'.out I2.bel
    have HT0 := tTalk_any dfl18 a2 c2 l w2 hA2 (by have := HN0.out; omega) (fun x hx => Nat.le_trans (HA.out.2.2 x hx).2 (by unfold maxLen; omega)) (PowT.later HP.out H2.out)
    rw [← HN0.out] at HT0 ⊢
    have hno := talk_no (p := dfl18) (l := l)
    have hye := fun q out h => talk_yes (p := dfl18) (q := q) (l := l) (out := out) h
    generalize talkM dfl18 l = TM at *
    obtain ⟨out0, P, E⟩ := TM
    simp only at HT0 hno hye
    have HT : Hid (Calls Tryd.prog 27 #[.agg #[.bool false, .bool false, .int .i64 8192, .int .i64 8192, .int .i64 262144, .int .i64 65536, .bool true, .bool true, .bool false, .string ⟨#[]⟩, .string ⟨#[]⟩], .slice a2 len0 c2] w2 fun e w' => ∃ v, e = .returned (.tuple #[v, .agg #[.bool P.hs, .bool P.ds, .int .i64 P.mo, .int .i64 P.mi, .int .i64 P.bu, .int .i64 P.fi, .bool P.a, .bool P.imd, .bool P.di, .string P.ini, .string P.tgt], .int .i64 E]) ∧ PrI kPr w2 w' v out0) := HT0
    clear HT0 I2 hA2 B1'
    go_wp2_with fail
    refine (Calls.mono (HT.out)) ?_
    rintro e w3 ⟨v3, rfl, I3⟩
    clear HT
    obtain ⟨a3, n3, c3, ez⟩ := I3.slice kPr_ok
    subst ez
    have H3 : Hid _ := below_then H2.out I3.bel
    clear I3 H2
    have N4 := Blk.new' w3 50 [.bool P.hs, .bool P.ds, .int .i64 P.mo, .int .i64 P.mi, .int .i64 P.bu, .int .i64 P.fi, .bool P.a, .bool P.imd, .bool P.di, .string P.ini, .string P.tgt]
    have bn4 : Below w3.heap.size w3 (w3.alloc (.cells #[.bool P.hs, .bool P.ds, .int .i64 P.mo, .int .i64 P.mi, .int .i64 P.bu, .int .i64 P.fi, .bool P.a, .bool P.imd, .bool P.di, .string P.ini, .string P.tgt] 50)) := (Below.refl _ _).alloc (Nat.le_refl _) _
    obtain ⟨w4, hw4⟩ : ∃ w4, w4 = w3.alloc (.cells #[.bool P.hs, .bool P.ds, .int .i64 P.mo, .int .i64 P.mi, .int .i64 P.bu, .int .i64 P.fi, .bool P.a, .bool P.imd, .bool P.di, .string P.ini, .string P.tgt] 50) := ⟨_, rfl⟩
    rw [← hw4] at N4 bn4
    obtain ⟨gp, hgp⟩ : ∃ g, g = w3.heap.size := ⟨_, rfl⟩
    rw [← hgp] at N4
    have H4 : Hid _ := And.intro (below_then H3.out bn4) N4
    clear bn4 N4 H3
    have HNO : Hid _ := hno
    have HYE : Hid _ := hye
    clear hno hye
    go_upto_region 4 with fail
    rw [← hw4, ← hgp]
    clear hw4 hgp
    by_cases hE : E = 0
    · subst hE
      obtain ⟨hL0, -, -⟩ := HYE.out P out0 rfl
      have hmo := hL0.mo ⟨by decide, by decide⟩
      have HMO : Hid _ := hmo
      clear hmo hL0 HNO HYE
      have HT0 := fun (a5 : Option Addr) (c5 : Nat) (W : World) hA hW => tTalk_any P a5 c5 m W hA (by have := HN1.out; omega) (fun x hx => Nat.le_trans (HM.out.2.2 x hx).2 (by unfold maxLen; omega)) (PowT.later HP.out hW)
      have hno := talk_no (p := P) (l := m)
      have hye := fun q out h => talk_yes (p := P) (q := q) (l := m) (out := out) h
      generalize talkM P m = TM at *
      obtain ⟨out, Q, F⟩ := TM
      simp only at HT0 hno hye
      rw [← HN1.out] at HT0
      have HT : Hid (∀ (a5 : Option Addr) (c5 : Nat) (W : World), GAt kPr W (.slice a5 len1 c5) m → Below w.heap.size w W → Calls Tryd.prog 27 #[.agg #[.bool P.hs, .bool P.ds, .int .i64 P.mo, .int .i64 P.mi, .int .i64 P.bu, .int .i64 P.fi, .bool P.a, .bool P.imd, .bool P.di, .string P.ini, .string P.tgt], .slice a5 len1 c5] W fun e w' => ∃ v, e = .returned (.tuple #[v, .agg #[.bool Q.hs, .bool Q.ds, .int .i64 Q.mo, .int .i64 Q.mi, .int .i64 Q.bu, .int .i64 Q.fi, .bool Q.a, .bool Q.imd, .bool Q.di, .string Q.ini, .string Q.tgt], .int .i64 F]) ∧ PrI kPr W w' v out) := HT0
      have HNO : Hid _ := hno
      have HYE : Hid _ := hye
      clear HT0 hno hye
      have HG : Hid (∀ W : World, Below w.heap.size w W → Calls Tryd.prog 11 #[.slice a1 len1 cap1] W fun e w' => ∃ v, e = .returned v ∧ PrI kPr W w' v m) := (fun W hW => by have h := given18_any a1 cap1 m W (gat_later hW HM.out.1) HM.out.2.1; rw [← HN1.out] at h; exact h : ∀ W : World, Below w.heap.size w W → Calls Tryd.prog 11 #[.slice a1 len1 cap1] W fun e w' => ∃ v, e = .returned v ∧ PrI kPr W w' v m)
      go_upto_region 6 with fail
      go_cut [8, 9, 10] from 43 to 50 (fun pv qv ev wx => ∃ (a6 : Option Addr) (c6 gq : Nat), pv = .slice a6 out.length c6 ∧ qv = .pointer (some ⟨gq, 0, none⟩) ∧ ev = .int .i64 F ∧ GAt kPr wx (.slice a6 out.length c6) out ∧ Below w4.heap.size w4 wx ∧ Blk wx gq 50 [.bool Q.hs, .bool Q.ds, .int .i64 Q.mo, .int .i64 Q.mi, .int .i64 Q.bu, .int .i64 Q.fi, .bool Q.a, .bool Q.imd, .bool Q.di, .string Q.ini, .string Q.tgt])
      case first =>
        refine wp_region_held_drew (S := fun W => Below w4.heap.size w4 W) (by kernel_rfl) (by exact (Below.refl _ _).drew) (fun hS => ?_)
        obtain ⟨x0, hx0⟩ : ∃ x, x = w4.drew := ⟨_, rfl⟩
        rw [← hx0] at hS ⊢
        clear hx0
        refine any_take (i := 0) (v := ?_) rfl (by kernel_rfl) (by kernel_rfl) (by kernel_rfl) (by exact fun _ _ _ h => h) (by rfl) ?_ hS ?_
        rotate_left
        · ((intro w hSw; have B9 := H4.out.2.laterB hSw; have q0 := ck_at B9 0; have q1 := ck_at B9 1; have q2 := ck_at B9 2; have q3 := ck_at B9 3; have q4 := ck_at B9 4; have q5 := ck_at B9 5; have q6 := ck_at B9 6; have q7 := ck_at B9 7; have q8 := ck_at B9 8; have q9 := ck_at B9 9; have q10 := ck_at B9 10; simp only [List.getElem?_cons_zero, List.getElem?_cons_succ] at q0 q1 q2 q3 q4 q5 q6 q7 q8 q9 q10; go_simp) <;> with_reducible rfl)
        (try simp only [Act.put, List.setIfInBounds_toArray, List.set_cons_zero, List.set_cons_succ])
        refine any_take (i := 1) (v := ?_) rfl (by kernel_rfl) (by kernel_rfl) (by kernel_rfl) (by exact fun _ _ _ h => h) (by rfl) ?_ hS ?_
        rotate_left
        · ((intro w hSw; skip; go_simp) <;> with_reducible rfl)
        (try simp only [Act.put, List.setIfInBounds_toArray, List.set_cons_zero, List.set_cons_succ])
        refine any_two18 (i := 2) (j := 8) rfl rfl (by kernel_rfl) (fun K hK => ?_) (fun K hK => ?_)
        · go_simp
          refine (Calls.mono (HG.out x0 (below_then H4.out.1 hS))) ?_
          rintro e x1 ⟨v5, rfl, I5⟩
          obtain ⟨a5, c5, ez, hA5⟩ := I5.at kPr_ok
          have ez2 : v5 = .slice a5 len1 c5 := by rw [ez, HN1.out]
          subst ez2
          clear ez
          have hS' : Below w4.heap.size w4 x1 := below_then hS I5.bel
          go_wp2_with fail
          refine hK.out _ _ hS' (fun _ => ?_)
          clear hK K hS
          have hS := hS'
          clear hS'
          refine any_two18 (i := 3) (j := 8) rfl rfl (by kernel_rfl) (fun K hK => ?_) (fun K hK => ?_)
          · go_simp
            refine (Calls.mono (HT.out a5 c5 x1 (hA5) (below_then H4.out.1 hS))) ?_
            rintro e x2 ⟨v6, rfl, I6⟩
            obtain ⟨a6, c6, ez6, hA6⟩ := I6.at kPr_ok
            subst ez6
            have hS' : Below w4.heap.size w4 x2 := below_then hS I6.bel
            go_wp2_with fail
            refine hK.out _ _ hS' (fun _ => ?_)
            clear hK K hS
            have hS := hS'
            clear hS'
            refine any_take (i := 4) (v := ?_) rfl (by kernel_rfl) (by kernel_rfl) (by kernel_rfl) (by exact fun _ _ _ h => h) (by rfl) ?_ hS ?_
            rotate_left
            · ((intro w hSw; skip; go_simp) <;> with_reducible rfl)
            (try simp only [Act.put, List.setIfInBounds_toArray, List.set_cons_zero, List.set_cons_succ])
            refine any_take (i := 5) (v := ?_) rfl (by kernel_rfl) (by kernel_rfl) (by kernel_rfl) (by exact fun _ _ _ h => h) (by rfl) ?_ hS ?_
            rotate_left
            · ((intro w hSw; skip; go_simp) <;> with_reducible rfl)
            (try simp only [Act.put, List.setIfInBounds_toArray, List.set_cons_zero, List.set_cons_succ])
            refine any_take (i := 6) (v := ?_) rfl (by kernel_rfl) (by kernel_rfl) (by kernel_rfl) (by exact fun _ _ _ h => h) (by rfl) ?_ hS ?_
            rotate_left
            · ((intro w hSw; skip; go_simp) <;> with_reducible rfl)
            (try simp only [Act.put, List.setIfInBounds_toArray, List.set_cons_zero, List.set_cons_succ])
            refine any_take (i := 7) (v := ?_) rfl (by kernel_rfl) (by kernel_rfl) (by kernel_rfl) (by exact fun _ _ _ h => h) (by rfl) ?_ hS ?_
            rotate_left
            · ((intro w hSw; skip; go_simp) <;> with_reducible rfl)
            (try simp only [Act.put, List.setIfInBounds_toArray, List.set_cons_zero, List.set_cons_succ])
            refine any_on (i := 8) rfl (by kernel_rfl) (fun K hK => ?_)
            go_simp
            have N0 := Blk.new' x2 50 [.bool false, .bool false, .int .i64 0, .int .i64 0, .int .i64 0, .int .i64 0, .bool false, .bool false, .bool false, .string ⟨#[]⟩, .string ⟨#[]⟩]
            have b0 : Below x2.heap.size x2 (x2.alloc (.cells #[.bool false, .bool false, .int .i64 0, .int .i64 0, .int .i64 0, .int .i64 0, .bool false, .bool false, .bool false, .string ⟨#[]⟩, .string ⟨#[]⟩] 50)) := (Below.refl _ _).alloc (Nat.le_refl _) _
            obtain ⟨gq, hgq⟩ : ∃ g, g = x2.heap.size := ⟨_, rfl⟩
            obtain ⟨x3, hx3⟩ : ∃ x, x = x2.alloc (.cells #[.bool false, .bool false, .int .i64 0, .int .i64 0, .int .i64 0, .int .i64 0, .bool false, .bool false, .bool false, .string ⟨#[]⟩, .string ⟨#[]⟩] 50) := ⟨_, rfl⟩
            rw [← hx3] at N0 b0
            rw [← hgq] at N0
            have hgl : w4.heap.size ≤ gq := by rw [hgq]; exact hS.size
            rw [← hx3, ← hgq]
            have HX : Hid _ := hx3
            have HGQ : Hid _ := hgq
            clear hx3 hgq
            have hS' : Below w4.heap.size w4 x3 := below_then hS b0
            refine hK.out _ _ hS' (fun _ => ?_)
            clear hK K hS
            have hS := hS'
            clear hS'
            obtain ⟨x9, st, N7, g7⟩ := storeW (T := 50) (vs := [.bool Q.hs, .bool Q.ds, .int .i64 Q.mo, .int .i64 Q.mi, .int .i64 Q.bu, .int .i64 Q.fi, .bool Q.a, .bool Q.imd, .bool Q.di, .string Q.ini, .string Q.tgt]) size_pa (N0) rfl (fun u hu => by simp at hu; rcases hu with rfl | rfl | rfl | rfl | rfl | rfl | rfl | rfl | rfl | rfl | rfl <;> rfl)
            have hq4 : Below w4.heap.size w4 x9 := hS.grown g7 hS.size (fun k e => by cases e; exact hgl)
            have HA8 : GAt kPr x9 (.slice a6 out.length c6) out := pri_keep18 I6 kPr_ok (by rw [HX.out] at g7; exact g7) HGQ.out
            refine any_take (i := 9) (v := ?_) rfl (by kernel_rfl) (by kernel_rfl) (by kernel_rfl) (by exact fun _ _ _ h => h) (by rfl) ?_ hS ?_
            rotate_left
            · ((intro w hSw; skip; go_simp) <;> with_reducible rfl)
            (try simp only [Act.put, List.setIfInBounds_toArray, List.set_cons_zero, List.set_cons_succ])
            refine any_one (i := 10) rfl (by kernel_rfl) (fun K hK => ?_)
            refine step_skip18 (by rfl) (exec_store rfl rfl rfl st) ?_
            refine hK.out _ _ (hq4) ?_
            clear hK K hS
            have hS := hq4
            refine any_take (i := 11) (v := ?_) rfl (by kernel_rfl) (by kernel_rfl) (by kernel_rfl) (by exact fun _ _ _ h => h) (by rfl) ?_ hS ?_
            rotate_left
            · ((intro w hSw; skip; go_simp) <;> with_reducible rfl)
            (try simp only [Act.put, List.setIfInBounds_toArray, List.set_cons_zero, List.set_cons_succ])
            refine wpAnyH_done (by kernel_rfl) ?_ _
            go_wp2
            go_meet
            exact ⟨a6, c6, gq, rfl, rfl, rfl, HA8, hq4, N7⟩
          · go_simp
            have N0 := Blk.new' x1 50 [.bool false, .bool false, .int .i64 0, .int .i64 0, .int .i64 0, .int .i64 0, .bool false, .bool false, .bool false, .string ⟨#[]⟩, .string ⟨#[]⟩]
            have b0 : Below x1.heap.size x1 (x1.alloc (.cells #[.bool false, .bool false, .int .i64 0, .int .i64 0, .int .i64 0, .int .i64 0, .bool false, .bool false, .bool false, .string ⟨#[]⟩, .string ⟨#[]⟩] 50)) := (Below.refl _ _).alloc (Nat.le_refl _) _
            obtain ⟨gq, hgq⟩ : ∃ g, g = x1.heap.size := ⟨_, rfl⟩
            obtain ⟨x2, hx2⟩ : ∃ x, x = x1.alloc (.cells #[.bool false, .bool false, .int .i64 0, .int .i64 0, .int .i64 0, .int .i64 0, .bool false, .bool false, .bool false, .string ⟨#[]⟩, .string ⟨#[]⟩] 50) := ⟨_, rfl⟩
            rw [← hx2] at N0 b0
            rw [← hgq] at N0
            have hgl : w4.heap.size ≤ gq := by rw [hgq]; exact hS.size
            rw [← hx2, ← hgq]
            have HX : Hid _ := hx2
            have HGQ : Hid _ := hgq
            clear hx2 hgq
            have hS' : Below w4.heap.size w4 x2 := below_then hS b0
            refine hK.out _ _ hS' (fun _ => ?_)
            clear hK K hS
            have hS := hS'
            clear hS'
            refine any_on (i := 3) rfl (by kernel_rfl) (fun K hK => ?_)
            go_simp
            refine (Calls.mono (HT.out a5 c5 x2 (gat_later b0 hA5) (below_then H4.out.1 hS))) ?_
            rintro e x3 ⟨v6, rfl, I6⟩
            obtain ⟨a6, c6, ez6, hA6⟩ := I6.at kPr_ok
            subst ez6
            have hS' : Below w4.heap.size w4 x3 := below_then hS I6.bel
            go_wp2_with fail
            refine hK.out _ _ hS' (fun _ => ?_)
            clear hK K hS
            have hS := hS'
            clear hS'
            refine any_take (i := 4) (v := ?_) rfl (by kernel_rfl) (by kernel_rfl) (by kernel_rfl) (by exact fun _ _ _ h => h) (by rfl) ?_ hS ?_
            rotate_left
            · ((intro w hSw; skip; go_simp) <;> with_reducible rfl)
            (try simp only [Act.put, List.setIfInBounds_toArray, List.set_cons_zero, List.set_cons_succ])
            refine any_take (i := 5) (v := ?_) rfl (by kernel_rfl) (by kernel_rfl) (by kernel_rfl) (by exact fun _ _ _ h => h) (by rfl) ?_ hS ?_
            rotate_left
            · ((intro w hSw; skip; go_simp) <;> with_reducible rfl)
            (try simp only [Act.put, List.setIfInBounds_toArray, List.set_cons_zero, List.set_cons_succ])
            refine any_take (i := 6) (v := ?_) rfl (by kernel_rfl) (by kernel_rfl) (by kernel_rfl) (by exact fun _ _ _ h => h) (by rfl) ?_ hS ?_
            rotate_left
            · ((intro w hSw; skip; go_simp) <;> with_reducible rfl)
            (try simp only [Act.put, List.setIfInBounds_toArray, List.set_cons_zero, List.set_cons_succ])
            refine any_take (i := 7) (v := ?_) rfl (by kernel_rfl) (by kernel_rfl) (by kernel_rfl) (by exact fun _ _ _ h => h) (by rfl) ?_ hS ?_
            rotate_left
            · ((intro w hSw; skip; go_simp) <;> with_reducible rfl)
            (try simp only [Act.put, List.setIfInBounds_toArray, List.set_cons_zero, List.set_cons_succ])
            obtain ⟨x9, st, N7, g7⟩ := storeW (T := 50) (vs := [.bool Q.hs, .bool Q.ds, .int .i64 Q.mo, .int .i64 Q.mi, .int .i64 Q.bu, .int .i64 Q.fi, .bool Q.a, .bool Q.imd, .bool Q.di, .string Q.ini, .string Q.tgt]) size_pa (N0.laterB I6.bel) rfl (fun u hu => by simp at hu; rcases hu with rfl | rfl | rfl | rfl | rfl | rfl | rfl | rfl | rfl | rfl | rfl <;> rfl)
            have hq4 : Below w4.heap.size w4 x9 := hS.grown g7 hS.size (fun k e => by cases e; exact hgl)
            have HA8 : GAt kPr x9 (.slice a6 out.length c6) out := pri_past18b I6 kPr_ok g7 N0.lt
            refine any_take (i := 9) (v := ?_) rfl (by kernel_rfl) (by kernel_rfl) (by kernel_rfl) (by exact fun _ _ _ h => h) (by rfl) ?_ hS ?_
            rotate_left
            · ((intro w hSw; skip; go_simp) <;> with_reducible rfl)
            (try simp only [Act.put, List.setIfInBounds_toArray, List.set_cons_zero, List.set_cons_succ])
            refine any_one (i := 10) rfl (by kernel_rfl) (fun K hK => ?_)
            refine step_skip18 (by rfl) (exec_store rfl rfl rfl st) ?_
            refine hK.out _ _ (hq4) ?_
            clear hK K hS
            have hS := hq4
            refine any_take (i := 11) (v := ?_) rfl (by kernel_rfl) (by kernel_rfl) (by kernel_rfl) (by exact fun _ _ _ h => h) (by rfl) ?_ hS ?_
            rotate_left
            · ((intro w hSw; skip; go_simp) <;> with_reducible rfl)
            (try simp only [Act.put, List.setIfInBounds_toArray, List.set_cons_zero, List.set_cons_succ])
            refine wpAnyH_done (by kernel_rfl) ?_ _
            go_wp2
            go_meet
            exact ⟨a6, c6, gq, rfl, rfl, rfl, HA8, hq4, N7⟩
        · go_simp
          have N0 := Blk.new' x0 50 [.bool false, .bool false, .int .i64 0, .int .i64 0, .int .i64 0, .int .i64 0, .bool false, .bool false, .bool false, .string ⟨#[]⟩, .string ⟨#[]⟩]
          have b0 : Below x0.heap.size x0 (x0.alloc (.cells #[.bool false, .bool false, .int .i64 0, .int .i64 0, .int .i64 0, .int .i64 0, .bool false, .bool false, .bool false, .string ⟨#[]⟩, .string ⟨#[]⟩] 50)) := (Below.refl _ _).alloc (Nat.le_refl _) _
          obtain ⟨gq, hgq⟩ : ∃ g, g = x0.heap.size := ⟨_, rfl⟩
          obtain ⟨x1, hx1⟩ : ∃ x, x = x0.alloc (.cells #[.bool false, .bool false, .int .i64 0, .int .i64 0, .int .i64 0, .int .i64 0, .bool false, .bool false, .bool false, .string ⟨#[]⟩, .string ⟨#[]⟩] 50) := ⟨_, rfl⟩
          rw [← hx1] at N0 b0
          rw [← hgq] at N0
          have hgl : w4.heap.size ≤ gq := by rw [hgq]; exact hS.size
          rw [← hx1, ← hgq]
          have HX : Hid _ := hx1
          have HGQ : Hid _ := hgq
          clear hx1 hgq
          have hS' : Below w4.heap.size w4 x1 := below_then hS b0
          refine hK.out _ _ hS' (fun _ => ?_)
          clear hK K hS
          have hS := hS'
          clear hS'
          refine any_on (i := 2) rfl (by kernel_rfl) (fun K hK => ?_)
          go_simp
          refine (Calls.mono (HG.out x1 (below_then H4.out.1 hS))) ?_
          rintro e x2 ⟨v5, rfl, I5⟩
          obtain ⟨a5, c5, ez, hA5⟩ := I5.at kPr_ok
          have ez2 : v5 = .slice a5 len1 c5 := by rw [ez, HN1.out]
          subst ez2
          clear ez
          have hS' : Below w4.heap.size w4 x2 := below_then hS I5.bel
          go_wp2_with fail
          refine hK.out _ _ hS' (fun _ => ?_)
          clear hK K hS
          have hS := hS'
          clear hS'
          refine any_on (i := 3) rfl (by kernel_rfl) (fun K hK => ?_)
          go_simp
          refine (Calls.mono (HT.out a5 c5 x2 (hA5) (below_then H4.out.1 hS))) ?_
          rintro e x3 ⟨v6, rfl, I6⟩
          obtain ⟨a6, c6, ez6, hA6⟩ := I6.at kPr_ok
          subst ez6
          have hS' : Below w4.heap.size w4 x3 := below_then hS I6.bel
          go_wp2_with fail
          refine hK.out _ _ hS' (fun _ => ?_)
          clear hK K hS
          have hS := hS'
          clear hS'
          refine any_take (i := 4) (v := ?_) rfl (by kernel_rfl) (by kernel_rfl) (by kernel_rfl) (by exact fun _ _ _ h => h) (by rfl) ?_ hS ?_
          rotate_left
          · ((intro w hSw; skip; go_simp) <;> with_reducible rfl)
          (try simp only [Act.put, List.setIfInBounds_toArray, List.set_cons_zero, List.set_cons_succ])
          refine any_take (i := 5) (v := ?_) rfl (by kernel_rfl) (by kernel_rfl) (by kernel_rfl) (by exact fun _ _ _ h => h) (by rfl) ?_ hS ?_
          rotate_left
          · ((intro w hSw; skip; go_simp) <;> with_reducible rfl)
          (try simp only [Act.put, List.setIfInBounds_toArray, List.set_cons_zero, List.set_cons_succ])
          refine any_take (i := 6) (v := ?_) rfl (by kernel_rfl) (by kernel_rfl) (by kernel_rfl) (by exact fun _ _ _ h => h) (by rfl) ?_ hS ?_
          rotate_left
          · ((intro w hSw; skip; go_simp) <;> with_reducible rfl)
          (try simp only [Act.put, List.setIfInBounds_toArray, List.set_cons_zero, List.set_cons_succ])
          refine any_take (i := 7) (v := ?_) rfl (by kernel_rfl) (by kernel_rfl) (by kernel_rfl) (by exact fun _ _ _ h => h) (by rfl) ?_ hS ?_
          rotate_left
          · ((intro w hSw; skip; go_simp) <;> with_reducible rfl)
          (try simp only [Act.put, List.setIfInBounds_toArray, List.set_cons_zero, List.set_cons_succ])
          obtain ⟨x9, st, N7, g7⟩ := storeW (T := 50) (vs := [.bool Q.hs, .bool Q.ds, .int .i64 Q.mo, .int .i64 Q.mi, .int .i64 Q.bu, .int .i64 Q.fi, .bool Q.a, .bool Q.imd, .bool Q.di, .string Q.ini, .string Q.tgt]) size_pa ((N0.laterB I5.bel).laterB I6.bel) rfl (fun u hu => by simp at hu; rcases hu with rfl | rfl | rfl | rfl | rfl | rfl | rfl | rfl | rfl | rfl | rfl <;> rfl)
          have hq4 : Below w4.heap.size w4 x9 := hS.grown g7 hS.size (fun k e => by cases e; exact hgl)
          have HA8 : GAt kPr x9 (.slice a6 out.length c6) out := pri_past18b I6 kPr_ok g7 (N0.laterB I5.bel).lt
          refine any_take (i := 9) (v := ?_) rfl (by kernel_rfl) (by kernel_rfl) (by kernel_rfl) (by exact fun _ _ _ h => h) (by rfl) ?_ hS ?_
          rotate_left
          · ((intro w hSw; skip; go_simp) <;> with_reducible rfl)
          (try simp only [Act.put, List.setIfInBounds_toArray, List.set_cons_zero, List.set_cons_succ])
          refine any_one (i := 10) rfl (by kernel_rfl) (fun K hK => ?_)
          refine step_skip18 (by rfl) (exec_store rfl rfl rfl st) ?_
          refine hK.out _ _ (hq4) ?_
          clear hK K hS
          have hS := hq4
          refine any_take (i := 11) (v := ?_) rfl (by kernel_rfl) (by kernel_rfl) (by kernel_rfl) (by exact fun _ _ _ h => h) (by rfl) ?_ hS ?_
          rotate_left
          · ((intro w hSw; skip; go_simp) <;> with_reducible rfl)
          (try simp only [Act.put, List.setIfInBounds_toArray, List.set_cons_zero, List.set_cons_succ])
          refine wpAnyH_done (by kernel_rfl) ?_ _
          go_wp2
          go_meet
          exact ⟨a6, c6, gq, rfl, rfl, rfl, HA8, hq4, N7⟩
      case rest =>
        obtain ⟨a6, c6, gq, rfl, rfl, rfl, hA8, hq4, N7⟩ := hcut
        skip
        have HA8 : Hid (GAt kPr wc (.slice a6 out.length c6) out) := hA8
        have H8 : Hid _ := And.intro (below_then H4.out.1 hq4) (And.intro (H4.out.2.laterB hq4) N7)
        clear hA8 hq4 N7 H4 HT HG
        obtain ⟨no, hno⟩ : ∃ no, no = out.length := ⟨_, rfl⟩
        rw [← hno] at HA8 ⊢
        have HNO2 : Hid _ := hno
        clear hno
        by_cases hF : F = 0
        · subst hF
          obtain ⟨hL, hfb, hsub⟩ := HYE.out Q out rfl
          have c1 : ¬ P.bu < Q.bu := by have := hL.bu; omega
          have c2 : ¬ P.fi < Q.fi := by have := hL.fi; omega
          have c3 : ¬ Q.bu < Q.fi := by omega
          have c4 : (Q.mi != P.mi) = false := by rw [hL.mi]; simp
          have hmo := hL.mo HMO.out
          have c5 : ¬ Q.mo < 512 := by omega
          have c6 : ¬ 65536 < Q.mo := by omega
          have hpa : P.a = false ∨ (P.a = true ∧ Q.a = true) := by cases h : P.a; exact .inl rfl; exact .inr ⟨rfl, hL.asd h⟩
          have hpi : P.imd = true ∨ (P.imd = false ∧ Q.imd = false) := by cases h : P.imd; exact .inr ⟨rfl, by cases h2 : Q.imd; rfl; rw [hL.ims h2] at h; cases h⟩; exact .inl rfl
          have HSUB : Hid _ := hsub
          have HOL : Hid (out.length ≤ m.length) := (by have := hsub.length_le; simpa using this : out.length ≤ m.length)
          clear hL hmo hfb hsub HNO HYE HMO
          have z0 := ck_at H8.out.2.1 0
          have z1 := ck_at H8.out.2.1 1
          have z2 := ck_at H8.out.2.1 2
          have z3 := ck_at H8.out.2.1 3
          have z4 := ck_at H8.out.2.1 4
          have z5 := ck_at H8.out.2.1 5
          have z6 := ck_at H8.out.2.1 6
          have z7 := ck_at H8.out.2.1 7
          have z8 := ck_at H8.out.2.1 8
          have z9 := ck_at H8.out.2.1 9
          have z10 := ck_at H8.out.2.1 10
          simp only [List.getElem?_cons_zero, List.getElem?_cons_succ] at z0 z1 z2 z3 z4 z5 z6 z7 z8 z9 z10
          have y0 := ck_at H8.out.2.2 0
          have y1 := ck_at H8.out.2.2 1
          have y2 := ck_at H8.out.2.2 2
          have y3 := ck_at H8.out.2.2 3
          have y4 := ck_at H8.out.2.2 4
          have y5 := ck_at H8.out.2.2 5
          have y6 := ck_at H8.out.2.2 6
          have y7 := ck_at H8.out.2.2 7
          have y8 := ck_at H8.out.2.2 8
          have y9 := ck_at H8.out.2.2 9
          have y10 := ck_at H8.out.2.2 10
          simp only [List.getElem?_cons_zero, List.getElem?_cons_succ] at y0 y1 y2 y3 y4 y5 y6 y7 y8 y9 y10
          go_upto_region 9 with fail
          generalize P.bu = pbu at *
          generalize P.fi = pfi at *
          generalize P.mi = pmi at *
          generalize Q.bu = qbu at *
          generalize Q.fi = qfi at *
          generalize Q.mi = qmi at *
          generalize Q.mo = qmo at *
          generalize P.a = pa at *
          generalize Q.a = qa at *
          generalize P.imd = pim at *
          generalize Q.imd = qim at *
          rcases hpa with rfl | ⟨rfl, rfl⟩
          · rcases hpi with rfl | ⟨rfl, rfl⟩
            · go_upto_region 11 with fail
              clear c1 c2 c3 c4 c5 c6 z0 y0 z1 y1 z2 y2 z3 y3 z4 y4 z5 y5 z6 y6 z7 y7 z8 y8 z9 y9 z10 y10
              go_wp2_with fail
              go_loopw [11, 12] (fun kv iv wr => ∃ k i : Nat, kv = .int .i64 (k : Int) ∧ iv = .int .i64 (i : Int) ∧ k ≤ out.length ∧ i ≤ m.length ∧ Below wc.heap.size wc wr ∧ List.Sublist ((out.drop k).map Prod.fst) ((m.drop i).map Prod.fst)) (fun _ iv _ => m.length - (intOf iv).toNat)
              case atStart => exact ⟨0, 0, rfl, rfl, Nat.zero_le _, Nat.zero_le _, Below.refl _ _, HSUB.out⟩
              case round =>
                obtain ⟨k, i, rfl, rfl, hk, hi, hB, hs2⟩ := hrel
                have hno := HNO2.out
                have hm1 := HN1.out
                by_cases hil : i < m.length
                · have q1 : (i : Int) < (len1 : Int) := by omega
                  have q1n : i < len1 := by omega
                  by_cases hkl : k < out.length
                  · have q2 : (k : Int) < (no : Int) := by omega
                    have q2n : k < no := by omega
                    have w5 : IntKind.i64.wrap ((k : Int) + 1) = (k : Int) + 1 := by have := HOL.out; rw [IntKind.wrap_i64]; omega
                    have w6 : IntKind.i64.wrap ((i : Int) + 1) = (i : Int) + 1 := by rw [IntKind.wrap_i64]; omega
                    obtain ⟨b, off, e1, hck⟩ := (gat_later hB (by rw [HNO2.out] at HA8; exact HA8.out)).each kPr_ok k hkl
                    subst e1
                    obtain ⟨b2, off2, e2, hci⟩ := (gat_later (below_then H8.out.1 hB) HM.out.1).each kRp_ok i hil
                    subst e2
                    have hc0 := hck 0 (by simp [kPr])
                    have hc1 := hci 0 (by simp [kRp])
                    simp only [kPr, kRp, List.getElem?_cons_zero, Nat.add_zero] at hc0 hc1
                    have hsa := sub_same18 hkl hil hs2
                    have hsb := fun h => sub_other18 hkl hil h hs2
                    generalize out[k] = x at *
                    generalize m[i] = y at *
                    have he := beq_toList x.1 y.1
                    have HG : Hid _ := And.intro hsa (And.intro hsb (And.intro hkl (And.intro hil (And.intro hB (fun n => hB.trans (⟨rfl, rfl, rfl, Nat.le_refl _, fun _ _ => rfl⟩ : Below wc.heap.size wr (wr.drewN n)))))))
                    clear hsa hsb hkl hil hB hs2 hck hci hk hi hno hm1
                    by_cases hq : x.1 = y.1
                    · rw [decide_eq_true hq] at he
                      clear hq
                      go_wp2_with fail
                      go_quiet (fail)
                      go_wp2
                      go_roundw
                      case rel => exact ⟨k + 1, i + 1, by first | rfl | trivial | go_num, by first | rfl | trivial | go_num, HG.out.2.2.1, HG.out.2.2.2.1, by first | exact HG.out.2.2.2.2.1 | exact HG.out.2.2.2.2.2 _, HG.out.1⟩
                      case measure => have := HG.out.2.2.2.1; simp [intOf]; omega
                    · rw [decide_eq_false hq] at he
                      have hs3 := HG.out.2.1 hq
                      have HS3 : Hid _ := hs3
                      clear hs3 hq
                      go_wp2_with fail
                      go_quiet (fail)
                      go_wp2
                      go_roundw
                      case rel => exact ⟨k, i + 1, by first | rfl | trivial | go_num, by first | rfl | trivial | go_num, Nat.le_of_lt HG.out.2.2.1, HG.out.2.2.2.1, by first | exact HG.out.2.2.2.2.1 | exact HG.out.2.2.2.2.2 _, HS3.out⟩
                      case measure => have := HG.out.2.2.2.1; simp [intOf]; omega
                  · have ek : k = no := by omega
                    subst ek
                    have q2 : ¬ (k : Int) < (k : Int) := by omega
                    clear hkl hil
                    have FB : Hid _ := below_then H8.out.1 hB
                    clear hB hs2 hk hi hno hm1
                    have FK : Hid _ := FB.out
                    clear FB
                    go_wp2_with fail
                    refine (Calls.mono (known18_any wr (PowT.later HP.out FK.out))) ?_
                    rintro e w9 ⟨rfl, b9⟩
                    have F : Hid _ := below_then FK.out b9
                    clear b9 FK
                    go_wp2
                    go_ret
                    exact ⟨rfl, F.out⟩
                · have ei : i = m.length := by omega
                  subst ei
                  rw [List.drop_length] at hs2
                  have ek0 := sub_nil18 hk hs2
                  have ek : k = no := by omega
                  subst ek
                  rw [← hm1]
                  have q1 : ¬ (len1 : Int) < (len1 : Int) := by omega
                  clear hil ek0
                  have FB : Hid _ := below_then H8.out.1 hB
                  clear hB hs2 hk hi hno hm1
                  have FK : Hid _ := FB.out
                  clear FB
                  go_wp2_with fail
                  refine (Calls.mono (known18_any wr (PowT.later HP.out FK.out))) ?_
                  rintro e w9 ⟨rfl, b9⟩
                  have F : Hid _ := below_then FK.out b9
                  clear b9 FK
                  go_wp2
                  go_ret
                  exact ⟨rfl, F.out⟩
            · go_upto_region 11 with fail
              clear c1 c2 c3 c4 c5 c6 z0 y0 z1 y1 z2 y2 z3 y3 z4 y4 z5 y5 z6 y6 z7 y7 z8 y8 z9 y9 z10 y10
              go_wp2_with fail
              go_loopw [11, 12] (fun kv iv wr => ∃ k i : Nat, kv = .int .i64 (k : Int) ∧ iv = .int .i64 (i : Int) ∧ k ≤ out.length ∧ i ≤ m.length ∧ Below wc.heap.size wc wr ∧ List.Sublist ((out.drop k).map Prod.fst) ((m.drop i).map Prod.fst)) (fun _ iv _ => m.length - (intOf iv).toNat)
              case atStart => exact ⟨0, 0, rfl, rfl, Nat.zero_le _, Nat.zero_le _, Below.refl _ _, HSUB.out⟩
              case round =>
                obtain ⟨k, i, rfl, rfl, hk, hi, hB, hs2⟩ := hrel
                have hno := HNO2.out
                have hm1 := HN1.out
                by_cases hil : i < m.length
                · have q1 : (i : Int) < (len1 : Int) := by omega
                  have q1n : i < len1 := by omega
                  by_cases hkl : k < out.length
                  · have q2 : (k : Int) < (no : Int) := by omega
                    have q2n : k < no := by omega
                    have w5 : IntKind.i64.wrap ((k : Int) + 1) = (k : Int) + 1 := by have := HOL.out; rw [IntKind.wrap_i64]; omega
                    have w6 : IntKind.i64.wrap ((i : Int) + 1) = (i : Int) + 1 := by rw [IntKind.wrap_i64]; omega
                    obtain ⟨b, off, e1, hck⟩ := (gat_later hB (by rw [HNO2.out] at HA8; exact HA8.out)).each kPr_ok k hkl
                    subst e1
                    obtain ⟨b2, off2, e2, hci⟩ := (gat_later (below_then H8.out.1 hB) HM.out.1).each kRp_ok i hil
                    subst e2
                    have hc0 := hck 0 (by simp [kPr])
                    have hc1 := hci 0 (by simp [kRp])
                    simp only [kPr, kRp, List.getElem?_cons_zero, Nat.add_zero] at hc0 hc1
                    have hsa := sub_same18 hkl hil hs2
                    have hsb := fun h => sub_other18 hkl hil h hs2
                    generalize out[k] = x at *
                    generalize m[i] = y at *
                    have he := beq_toList x.1 y.1
                    have HG : Hid _ := And.intro hsa (And.intro hsb (And.intro hkl (And.intro hil (And.intro hB (fun n => hB.trans (⟨rfl, rfl, rfl, Nat.le_refl _, fun _ _ => rfl⟩ : Below wc.heap.size wr (wr.drewN n)))))))
                    clear hsa hsb hkl hil hB hs2 hck hci hk hi hno hm1
                    by_cases hq : x.1 = y.1
                    · rw [decide_eq_true hq] at he
                      clear hq
                      go_wp2_with fail
                      go_quiet (fail)
                      go_wp2
                      go_roundw
                      case rel => exact ⟨k + 1, i + 1, by first | rfl | trivial | go_num, by first | rfl | trivial | go_num, HG.out.2.2.1, HG.out.2.2.2.1, by first | exact HG.out.2.2.2.2.1 | exact HG.out.2.2.2.2.2 _, HG.out.1⟩
                      case measure => have := HG.out.2.2.2.1; simp [intOf]; omega
                    · rw [decide_eq_false hq] at he
                      have hs3 := HG.out.2.1 hq
                      have HS3 : Hid _ := hs3
                      clear hs3 hq
                      go_wp2_with fail
                      go_quiet (fail)
                      go_wp2
                      go_roundw
                      case rel => exact ⟨k, i + 1, by first | rfl | trivial | go_num, by first | rfl | trivial | go_num, Nat.le_of_lt HG.out.2.2.1, HG.out.2.2.2.1, by first | exact HG.out.2.2.2.2.1 | exact HG.out.2.2.2.2.2 _, HS3.out⟩
                      case measure => have := HG.out.2.2.2.1; simp [intOf]; omega
                  · have ek : k = no := by omega
                    subst ek
                    have q2 : ¬ (k : Int) < (k : Int) := by omega
                    clear hkl hil
                    have FB : Hid _ := below_then H8.out.1 hB
                    clear hB hs2 hk hi hno hm1
                    have FK : Hid _ := FB.out
                    clear FB
                    go_wp2_with fail
                    refine (Calls.mono (known18_any wr (PowT.later HP.out FK.out))) ?_
                    rintro e w9 ⟨rfl, b9⟩
                    have F : Hid _ := below_then FK.out b9
                    clear b9 FK
                    go_wp2
                    go_ret
                    exact ⟨rfl, F.out⟩
                · have ei : i = m.length := by omega
                  subst ei
                  rw [List.drop_length] at hs2
                  have ek0 := sub_nil18 hk hs2
                  have ek : k = no := by omega
                  subst ek
                  rw [← hm1]
                  have q1 : ¬ (len1 : Int) < (len1 : Int) := by omega
                  clear hil ek0
                  have FB : Hid _ := below_then H8.out.1 hB
                  clear hB hs2 hk hi hno hm1
                  have FK : Hid _ := FB.out
                  clear FB
                  go_wp2_with fail
                  refine (Calls.mono (known18_any wr (PowT.later HP.out FK.out))) ?_
                  rintro e w9 ⟨rfl, b9⟩
                  have F : Hid _ := below_then FK.out b9
                  clear b9 FK
                  go_wp2
                  go_ret
                  exact ⟨rfl, F.out⟩
          · rcases hpi with rfl | ⟨rfl, rfl⟩
            · go_upto_region 11 with fail
              clear c1 c2 c3 c4 c5 c6 z0 y0 z1 y1 z2 y2 z3 y3 z4 y4 z5 y5 z6 y6 z7 y7 z8 y8 z9 y9 z10 y10
              go_wp2_with fail
              go_loopw [11, 12] (fun kv iv wr => ∃ k i : Nat, kv = .int .i64 (k : Int) ∧ iv = .int .i64 (i : Int) ∧ k ≤ out.length ∧ i ≤ m.length ∧ Below wc.heap.size wc wr ∧ List.Sublist ((out.drop k).map Prod.fst) ((m.drop i).map Prod.fst)) (fun _ iv _ => m.length - (intOf iv).toNat)
              case atStart => exact ⟨0, 0, rfl, rfl, Nat.zero_le _, Nat.zero_le _, Below.refl _ _, HSUB.out⟩
              case round =>
                obtain ⟨k, i, rfl, rfl, hk, hi, hB, hs2⟩ := hrel
                have hno := HNO2.out
                have hm1 := HN1.out
                by_cases hil : i < m.length
                · have q1 : (i : Int) < (len1 : Int) := by omega
                  have q1n : i < len1 := by omega
                  by_cases hkl : k < out.length
                  · have q2 : (k : Int) < (no : Int) := by omega
                    have q2n : k < no := by omega
                    have w5 : IntKind.i64.wrap ((k : Int) + 1) = (k : Int) + 1 := by have := HOL.out; rw [IntKind.wrap_i64]; omega
                    have w6 : IntKind.i64.wrap ((i : Int) + 1) = (i : Int) + 1 := by rw [IntKind.wrap_i64]; omega
                    obtain ⟨b, off, e1, hck⟩ := (gat_later hB (by rw [HNO2.out] at HA8; exact HA8.out)).each kPr_ok k hkl
                    subst e1
                    obtain ⟨b2, off2, e2, hci⟩ := (gat_later (below_then H8.out.1 hB) HM.out.1).each kRp_ok i hil
                    subst e2
                    have hc0 := hck 0 (by simp [kPr])
                    have hc1 := hci 0 (by simp [kRp])
                    simp only [kPr, kRp, List.getElem?_cons_zero, Nat.add_zero] at hc0 hc1
                    have hsa := sub_same18 hkl hil hs2
                    have hsb := fun h => sub_other18 hkl hil h hs2
                    generalize out[k] = x at *
                    generalize m[i] = y at *
                    have he := beq_toList x.1 y.1
                    have HG : Hid _ := And.intro hsa (And.intro hsb (And.intro hkl (And.intro hil (And.intro hB (fun n => hB.trans (⟨rfl, rfl, rfl, Nat.le_refl _, fun _ _ => rfl⟩ : Below wc.heap.size wr (wr.drewN n)))))))
                    clear hsa hsb hkl hil hB hs2 hck hci hk hi hno hm1
                    by_cases hq : x.1 = y.1
                    · rw [decide_eq_true hq] at he
                      clear hq
                      go_wp2_with fail
                      go_quiet (fail)
                      go_wp2
                      go_roundw
                      case rel => exact ⟨k + 1, i + 1, by first | rfl | trivial | go_num, by first | rfl | trivial | go_num, HG.out.2.2.1, HG.out.2.2.2.1, by first | exact HG.out.2.2.2.2.1 | exact HG.out.2.2.2.2.2 _, HG.out.1⟩
                      case measure => have := HG.out.2.2.2.1; simp [intOf]; omega
                    · rw [decide_eq_false hq] at he
                      have hs3 := HG.out.2.1 hq
                      have HS3 : Hid _ := hs3
                      clear hs3 hq
                      go_wp2_with fail
                      go_quiet (fail)
                      go_wp2
                      go_roundw
                      case rel => exact ⟨k, i + 1, by first | rfl | trivial | go_num, by first | rfl | trivial | go_num, Nat.le_of_lt HG.out.2.2.1, HG.out.2.2.2.1, by first | exact HG.out.2.2.2.2.1 | exact HG.out.2.2.2.2.2 _, HS3.out⟩
                      case measure => have := HG.out.2.2.2.1; simp [intOf]; omega
                  · have ek : k = no := by omega
                    subst ek
                    have q2 : ¬ (k : Int) < (k : Int) := by omega
                    clear hkl hil
                    have FB : Hid _ := below_then H8.out.1 hB
                    clear hB hs2 hk hi hno hm1
                    have FK : Hid _ := FB.out
                    clear FB
                    go_wp2_with fail
                    refine (Calls.mono (known18_any wr (PowT.later HP.out FK.out))) ?_
                    rintro e w9 ⟨rfl, b9⟩
                    have F : Hid _ := below_then FK.out b9
                    clear b9 FK
                    go_wp2
                    go_ret
                    exact ⟨rfl, F.out⟩
                · have ei : i = m.length := by omega
                  subst ei
                  rw [List.drop_length] at hs2
                  have ek0 := sub_nil18 hk hs2
                  have ek : k = no := by omega
                  subst ek
                  rw [← hm1]
                  have q1 : ¬ (len1 : Int) < (len1 : Int) := by omega
                  clear hil ek0
                  have FB : Hid _ := below_then H8.out.1 hB
                  clear hB hs2 hk hi hno hm1
                  have FK : Hid _ := FB.out
                  clear FB
                  go_wp2_with fail
                  refine (Calls.mono (known18_any wr (PowT.later HP.out FK.out))) ?_
                  rintro e w9 ⟨rfl, b9⟩
                  have F : Hid _ := below_then FK.out b9
                  clear b9 FK
                  go_wp2
                  go_ret
                  exact ⟨rfl, F.out⟩
            · go_upto_region 11 with fail
              clear c1 c2 c3 c4 c5 c6 z0 y0 z1 y1 z2 y2 z3 y3 z4 y4 z5 y5 z6 y6 z7 y7 z8 y8 z9 y9 z10 y10
              go_wp2_with fail
              go_loopw [11, 12] (fun kv iv wr => ∃ k i : Nat, kv = .int .i64 (k : Int) ∧ iv = .int .i64 (i : Int) ∧ k ≤ out.length ∧ i ≤ m.length ∧ Below wc.heap.size wc wr ∧ List.Sublist ((out.drop k).map Prod.fst) ((m.drop i).map Prod.fst)) (fun _ iv _ => m.length - (intOf iv).toNat)
              case atStart => exact ⟨0, 0, rfl, rfl, Nat.zero_le _, Nat.zero_le _, Below.refl _ _, HSUB.out⟩
              case round =>
                obtain ⟨k, i, rfl, rfl, hk, hi, hB, hs2⟩ := hrel
                have hno := HNO2.out
                have hm1 := HN1.out
                by_cases hil : i < m.length
                · have q1 : (i : Int) < (len1 : Int) := by omega
                  have q1n : i < len1 := by omega
                  by_cases hkl : k < out.length
                  · have q2 : (k : Int) < (no : Int) := by omega
                    have q2n : k < no := by omega
                    have w5 : IntKind.i64.wrap ((k : Int) + 1) = (k : Int) + 1 := by have := HOL.out; rw [IntKind.wrap_i64]; omega
                    have w6 : IntKind.i64.wrap ((i : Int) + 1) = (i : Int) + 1 := by rw [IntKind.wrap_i64]; omega
                    obtain ⟨b, off, e1, hck⟩ := (gat_later hB (by rw [HNO2.out] at HA8; exact HA8.out)).each kPr_ok k hkl
                    subst e1
                    obtain ⟨b2, off2, e2, hci⟩ := (gat_later (below_then H8.out.1 hB) HM.out.1).each kRp_ok i hil
                    subst e2
                    have hc0 := hck 0 (by simp [kPr])
                    have hc1 := hci 0 (by simp [kRp])
                    simp only [kPr, kRp, List.getElem?_cons_zero, Nat.add_zero] at hc0 hc1
                    have hsa := sub_same18 hkl hil hs2
                    have hsb := fun h => sub_other18 hkl hil h hs2
                    generalize out[k] = x at *
                    generalize m[i] = y at *
                    have he := beq_toList x.1 y.1
                    have HG : Hid _ := And.intro hsa (And.intro hsb (And.intro hkl (And.intro hil (And.intro hB (fun n => hB.trans (⟨rfl, rfl, rfl, Nat.le_refl _, fun _ _ => rfl⟩ : Below wc.heap.size wr (wr.drewN n)))))))
                    clear hsa hsb hkl hil hB hs2 hck hci hk hi hno hm1
                    by_cases hq : x.1 = y.1
                    · rw [decide_eq_true hq] at he
                      clear hq
                      go_wp2_with fail
                      go_quiet (fail)
                      go_wp2
                      go_roundw
                      case rel => exact ⟨k + 1, i + 1, by first | rfl | trivial | go_num, by first | rfl | trivial | go_num, HG.out.2.2.1, HG.out.2.2.2.1, by first | exact HG.out.2.2.2.2.1 | exact HG.out.2.2.2.2.2 _, HG.out.1⟩
                      case measure => have := HG.out.2.2.2.1; simp [intOf]; omega
                    · rw [decide_eq_false hq] at he
                      have hs3 := HG.out.2.1 hq
                      have HS3 : Hid _ := hs3
                      clear hs3 hq
                      go_wp2_with fail
                      go_quiet (fail)
                      go_wp2
                      go_roundw
                      case rel => exact ⟨k, i + 1, by first | rfl | trivial | go_num, by first | rfl | trivial | go_num, Nat.le_of_lt HG.out.2.2.1, HG.out.2.2.2.1, by first | exact HG.out.2.2.2.2.1 | exact HG.out.2.2.2.2.2 _, HS3.out⟩
                      case measure => have := HG.out.2.2.2.1; simp [intOf]; omega
                  · have ek : k = no := by omega
                    subst ek
                    have q2 : ¬ (k : Int) < (k : Int) := by omega
                    clear hkl hil
                    have FB : Hid _ := below_then H8.out.1 hB
                    clear hB hs2 hk hi hno hm1
                    have FK : Hid _ := FB.out
                    clear FB
                    go_wp2_with fail
                    refine (Calls.mono (known18_any wr (PowT.later HP.out FK.out))) ?_
                    rintro e w9 ⟨rfl, b9⟩
                    have F : Hid _ := below_then FK.out b9
                    clear b9 FK
                    go_wp2
                    go_ret
                    exact ⟨rfl, F.out⟩
                · have ei : i = m.length := by omega
                  subst ei
                  rw [List.drop_length] at hs2
                  have ek0 := sub_nil18 hk hs2
                  have ek : k = no := by omega
                  subst ek
                  rw [← hm1]
                  have q1 : ¬ (len1 : Int) < (len1 : Int) := by omega
                  clear hil ek0
                  have FB : Hid _ := below_then H8.out.1 hB
                  clear hB hs2 hk hi hno hm1
                  have FK : Hid _ := FB.out
                  clear FB
                  go_wp2_with fail
                  refine (Calls.mono (known18_any wr (PowT.later HP.out FK.out))) ?_
                  rintro e w9 ⟨rfl, b9⟩
                  have F : Hid _ := below_then FK.out b9
                  clear b9 FK
                  go_wp2
                  go_ret
                  exact ⟨rfl, F.out⟩
        · have hz := HNO.out hF
          simp only [Prod.mk.injEq] at hz
          obtain ⟨rfl, rfl, rfl⟩ := hz
          have hn0 : no = 0 := by rw [HNO2.out]; rfl
          subst hn0
          clear HNO HYE hF HMO HA8 HNO2
          have HE : Hid (∀ W, _) := fun W => eqPa Q W
          have HPm : Hid (∀ W, _) := fun W => tParams_any Q W
          go_upto_region 8 with fail
          refine wp_region_held_drew (S := fun W => Below wc.heap.size wc W) (by kernel_rfl) (by exact (Below.refl _ _).drew) (fun hS => ?_)
          refine any_take (i := 0) (v := ?_) rfl (by kernel_rfl) (by kernel_rfl) (by kernel_rfl) (by exact fun _ _ _ h => h) (by rfl) ?_ hS ?_
          rotate_left
          · ((intro w hSw; skip; go_simp) <;> with_reducible rfl)
          (try simp only [Act.put, List.setIfInBounds_toArray, List.set_cons_zero, List.set_cons_succ])
          refine any_take (i := 1) (v := ?_) rfl (by kernel_rfl) (by kernel_rfl) (by kernel_rfl) (by exact fun _ _ _ h => h) (by rfl) ?_ hS ?_
          rotate_left
          · ((intro w hSw; skip; go_simp) <;> with_reducible rfl)
          (try simp only [Act.put, List.setIfInBounds_toArray, List.set_cons_zero, List.set_cons_succ])
          refine any_take (i := 2) (v := ?_) rfl (by kernel_rfl) (by kernel_rfl) (by kernel_rfl) (by exact fun _ _ _ h => h) (by rfl) ?_ hS ?_
          rotate_left
          · ((intro w hSw; skip; go_simp) <;> with_reducible rfl)
          (try simp only [Act.put, List.setIfInBounds_toArray, List.set_cons_zero, List.set_cons_succ])
          refine any_take (i := 3) (v := ?_) rfl (by kernel_rfl) (by kernel_rfl) (by kernel_rfl) (by exact fun _ _ _ h => h) (by rfl) ?_ hS ?_
          rotate_left
          · ((intro w hSw; skip; go_simp) <;> with_reducible rfl)
          (try simp only [Act.put, List.setIfInBounds_toArray, List.set_cons_zero, List.set_cons_succ])
          refine any_take (i := 4) (v := ?_) rfl (by kernel_rfl) (by kernel_rfl) (by kernel_rfl) (by exact fun _ _ _ h => h) (by rfl) ?_ hS ?_
          rotate_left
          · ((intro w hSw; have B9 := H8.out.2.2.laterB hSw; have q0 := ck_at B9 0; have q1 := ck_at B9 1; have q2 := ck_at B9 2; have q3 := ck_at B9 3; have q4 := ck_at B9 4; have q5 := ck_at B9 5; have q6 := ck_at B9 6; have q7 := ck_at B9 7; have q8 := ck_at B9 8; have q9 := ck_at B9 9; have q10 := ck_at B9 10; simp only [List.getElem?_cons_zero, List.getElem?_cons_succ] at q0 q1 q2 q3 q4 q5 q6 q7 q8 q9 q10; go_simp) <;> with_reducible rfl)
          (try simp only [Act.put, List.setIfInBounds_toArray, List.set_cons_zero, List.set_cons_succ])
          refine any_take (i := 6) (v := ?_) rfl (by kernel_rfl) (by kernel_rfl) (by kernel_rfl) (by exact fun _ _ _ h => h) (by rfl) ?_ hS ?_
          rotate_left
          · ((intro w hSw; have B9 := H8.out.2.1.laterB hSw; have q0 := ck_at B9 0; have q1 := ck_at B9 1; have q2 := ck_at B9 2; have q3 := ck_at B9 3; have q4 := ck_at B9 4; have q5 := ck_at B9 5; have q6 := ck_at B9 6; have q7 := ck_at B9 7; have q8 := ck_at B9 8; have q9 := ck_at B9 9; have q10 := ck_at B9 10; simp only [List.getElem?_cons_zero, List.getElem?_cons_succ] at q0 q1 q2 q3 q4 q5 q6 q7 q8 q9 q10; go_simp) <;> with_reducible rfl)
          (try simp only [Act.put, List.setIfInBounds_toArray, List.set_cons_zero, List.set_cons_succ])
          refine any_one (i := 5) rfl (by kernel_rfl) (fun K hK => ?_)
          go_simp
          refine (Calls.mono (HPm.out _)) ?_
          rintro e y1 ⟨rfl, b1⟩
          have hS1 : Below wc.heap.size wc y1 := below_then (Below.refl _ _).drew b1
          go_wp2_with fail
          refine hK.out _ _ hS1 ?_
          clear hK K hS b1
          have hS := hS1
          clear hS1
          refine any_one (i := 7) rfl (by kernel_rfl) (fun K hK => ?_)
          go_simp
          refine (Calls.mono (HPm.out _)) ?_
          rintro e y2 ⟨rfl, b2⟩
          have hS1 : Below wc.heap.size wc y2 := below_then hS b2
          go_wp2_with fail
          refine hK.out _ _ hS1 ?_
          clear hK K hS b2
          have hS := hS1
          clear hS1
          refine any_take (i := 8) (v := ?_) rfl (by kernel_rfl) (by kernel_rfl) (by kernel_rfl) (by exact fun _ _ _ h => h) (by rfl) ?_ hS ?_
          rotate_left
          · ((intro w hSw; have f4 := HE.out w; go_simp) <;> with_reducible rfl)
          (try simp only [Act.put, List.setIfInBounds_toArray, List.set_cons_zero, List.set_cons_succ])
          refine any_take (i := 9) (v := ?_) rfl (by kernel_rfl) (by kernel_rfl) (by kernel_rfl) (by exact fun _ _ _ h => h) (by rfl) ?_ hS ?_
          rotate_left
          · ((intro w hSw; skip; go_simp) <;> with_reducible rfl)
          (try simp only [Act.put, List.setIfInBounds_toArray, List.set_cons_zero, List.set_cons_succ])
          refine any_take (i := 10) (v := ?_) rfl (by kernel_rfl) (by kernel_rfl) (by kernel_rfl) (by exact fun _ _ _ h => h) (by rfl) ?_ hS ?_
          rotate_left
          · ((intro w hSw; skip; go_simp) <;> with_reducible rfl)
          (try simp only [Act.put, List.setIfInBounds_toArray, List.set_cons_zero, List.set_cons_succ])
          have HKn : Hid _ := known18_any y2 (PowT.later HP.out (below_then H8.out.1 hS))
          refine any_one (i := 11) rfl (by kernel_rfl) (fun K hK => ?_)
          go_simp
          refine (Calls.mono (HKn.out)) ?_
          rintro e y3 ⟨rfl, b3⟩
          have hS1 : Below wc.heap.size wc y3 := below_then hS b3
          go_wp2_with fail
          refine hK.out _ _ hS1 ?_
          clear hK K hS b3
          have hS := hS1
          clear hS1
          refine any_take (i := 12) (v := ?_) rfl (by kernel_rfl) (by kernel_rfl) (by kernel_rfl) (by exact fun _ _ _ h => h) (by rfl) ?_ hS ?_
          rotate_left
          · ((intro w hSw; skip; go_simp) <;> with_reducible rfl)
          (try simp only [Act.put, List.setIfInBounds_toArray, List.set_cons_zero, List.set_cons_succ])
          refine any_take (i := 13) (v := ?_) rfl (by kernel_rfl) (by kernel_rfl) (by kernel_rfl) (by exact fun _ _ _ h => h) (by rfl) ?_ hS ?_
          rotate_left
          · ((intro w hSw; skip; go_simp) <;> with_reducible rfl)
          (try simp only [Act.put, List.setIfInBounds_toArray, List.set_cons_zero, List.set_cons_succ])
          have FF : Hid _ := below_then H8.out.1 hS
          refine wpAnyH_done (by kernel_rfl) ?_ _
          clear hS
          go_wp2
          go_ret
          exact ⟨rfl, FF.out⟩
    · have hz := HNO.out hE
      simp only [Prod.mk.injEq] at hz
      obtain ⟨-, rfl, rfl⟩ := hz
      clear HNO HYE hE
      have he := fun W => eqPa dfl18 W
      have he2 : ∀ W, Sem.run Tryd.prog (Op.equalIn 10000 48 (.agg #[.bool false, .bool false, .int .i64 8192, .int .i64 8192, .int .i64 262144, .int .i64 65536, .bool true, .bool true, .bool false, .string ⟨#[]⟩, .string ⟨#[]⟩]) (.agg #[.bool false, .bool false, .int .i64 8192, .int .i64 8192, .int .i64 262144, .int .i64 65536, .bool true, .bool true, .bool false, .string ⟨#[]⟩, .string ⟨#[]⟩])) W = .ok true W := he
      clear he
      have z0 := ck_at H4.out.2 0
      have z1 := ck_at H4.out.2 1
      have z2 := ck_at H4.out.2 2
      have z3 := ck_at H4.out.2 3
      have z4 := ck_at H4.out.2 4
      have z5 := ck_at H4.out.2 5
      have z6 := ck_at H4.out.2 6
      have z7 := ck_at H4.out.2 7
      have z8 := ck_at H4.out.2 8
      have z9 := ck_at H4.out.2 9
      have z10 := ck_at H4.out.2 10
      simp only [List.getElem?_cons_zero, List.getElem?_cons_succ] at z0 z1 z2 z3 z4 z5 z6 z7 z8 z9 z10
      simp only [dfl18] at z0 z1 z2 z3 z4 z5 z6 z7 z8 z9 z10
      have HPm : Hid (Calls Tryd.prog 24 #[.agg #[.bool false, .bool false, .int .i64 8192, .int .i64 8192, .int .i64 262144, .int .i64 65536, .bool true, .bool true, .bool false, .string ⟨#[]⟩, .string ⟨#[]⟩]] w4 fun e w' => e = .returned (.agg #[.bool false, .bool false, .int .i64 8192, .int .i64 8192, .int .i64 262144, .int .i64 65536, .bool true, .bool true, .bool false, .string ⟨#[]⟩, .string ⟨#[]⟩]) ∧ Below w4.heap.size w4 w') := tParams_any dfl18 w4
      go_wp2_with fail
      refine (Calls.mono (HPm.out)) ?_
      rintro e w5 ⟨rfl, b5⟩
      have H5 : Hid _ := below_then H4.out.1 b5
      clear b5 HPm H4 z0 z1 z2 z3 z4 z5 z6 z7 z8 z9 z10
      go_wp2_with fail
      refine (Calls.mono (rdefault w5)) ?_
      rintro e w6 ⟨rfl, b6⟩
      have H6 : Hid _ := below_then H5.out b6
      clear b6 H5
      have FK : Hid _ := H6.out
      clear H6
      go_wp2_with fail
      refine (Calls.mono (known18_any w6 (PowT.later HP.out FK.out))) ?_
      rintro e w9 ⟨rfl, b9⟩
      have F : Hid _ := below_then FK.out b9
      clear b9 FK
      go_wp2
      go_ret
      exact ⟨rfl, F.out⟩
end Go.Proofs.YtligmiajlbjecaaDoor
