/- text: facts of Talk; params. -/
import Derived.Test.YtligmiajlbjecaaDoorXTy6
import Derived.Test.YtligmiajlbjecaaDoorXTx18
namespace Go.Proofs.YtligmiajlbjecaaDoor
open Go.RowKit
set_option linter.unusedVariables false
set_option linter.unusedSimpArgs false
set_option maxRecDepth 8000

/-- nothing is greater than it was -/
structure LessP (p q : Pm18) : Prop where
  mi : q.mi = p.mi
  bu : q.bu ≤ p.bu
  fi : q.fi ≤ p.fi
  mo : 512 ≤ p.mo ∧ p.mo ≤ 65536 → 512 ≤ q.mo ∧ q.mo ≤ 65536
  asd : p.a = true → q.a = true
  ims : q.imd = true → p.imd = true
theorem LessP.refl (p : Pm18) : LessP p p := ⟨rfl, by omega, by omega, id, id, id⟩
theorem LessP.trans {p q r : Pm18} (h : LessP p q) (k : LessP q r) : LessP p r := ⟨k.mi.trans h.mi, by have := h.bu; have := k.bu; omega, by have := h.fi; have := k.fi; omega, fun x => k.mo (h.mo x), fun x => k.asd (h.asd x), fun x => h.ims (k.ims x)⟩
theorem ag_less (ix : Nat) (hx : ix ≤ 21) (an : ByteArray) (p : Pm18) (v : ByteArray) (ht : takesM (rlI ix) v = true) : LessP p (agM ix an p v).1 := by
  rcases nat22 hx with rfl | rfl | rfl | rfl | rfl | rfl | rfl | rfl | rfl | rfl | rfl | rfl | rfl | rfl | rfl | rfl | rfl | rfl | rfl | rfl | rfl | rfl
  · exact ⟨rfl, Int.le_refl _, Int.le_refl _, id, id, id⟩
  · exact ⟨rfl, Int.le_refl _, Int.le_refl _, id, id, id⟩
  · exact ⟨rfl, Int.le_refl _, Int.le_refl _, id, id, id⟩
  · exact ⟨rfl, Int.le_refl _, Int.le_refl _, id, id, id⟩
  · exact ⟨rfl, Int.le_refl _, Int.le_refl _, id, id, id⟩
  · show LessP p (if _ then p else _)
    split
    · exact LessP.refl _
    · exact ⟨rfl, Int.le_refl _, Int.le_refl _, id, id, id⟩
  · show LessP p (if _ then p else _)
    split
    · exact LessP.refl _
    · exact ⟨rfl, Int.le_refl _, Int.le_refl _, id, id, id⟩
  · have h : takesM (rlI 7) v = ((nuR v.data.toList).2 == 0 && (decide ((512 : Int) ≤ (nuR v.data.toList).1) && decide ((nuR v.data.toList).1 ≤ 16777215))) := rfl
    rw [h] at ht
    simp only [Bool.and_eq_true, decide_eq_true_eq] at ht
    exact ⟨rfl, Int.le_refl _, Int.le_refl _, fun _ => (by have := ht.2.1; show 512 ≤ min (nuR v.data.toList).1 65536 ∧ min (nuR v.data.toList).1 65536 ≤ 65536; omega), id, id⟩
  · exact ⟨rfl, (by show min _ p.bu ≤ p.bu; omega), Int.le_refl _, id, id, id⟩
  · exact ⟨rfl, Int.le_refl _, (by show min _ p.fi ≤ p.fi; omega), id, id, id⟩
  · exact ⟨rfl, Int.le_refl _, Int.le_refl _, id, (fun h => by show (p.a || _) = true; rw [h]; rfl), id⟩
  · exact ⟨rfl, Int.le_refl _, Int.le_refl _, id, id, (fun h => by have h2 : (p.imd && v.toList == yesS.toList) = true := h; rw [Bool.and_eq_true] at h2; exact h2.1)⟩
  · exact ⟨rfl, Int.le_refl _, Int.le_refl _, id, id, id⟩
  · exact ⟨rfl, Int.le_refl _, Int.le_refl _, id, id, id⟩
  · exact ⟨rfl, Int.le_refl _, Int.le_refl _, id, id, id⟩
  · exact ⟨rfl, Int.le_refl _, Int.le_refl _, id, id, id⟩
  · exact ⟨rfl, Int.le_refl _, Int.le_refl _, id, id, id⟩
  · exact ⟨rfl, Int.le_refl _, Int.le_refl _, id, id, id⟩
  · exact ⟨rfl, Int.le_refl _, Int.le_refl _, id, id, id⟩
  · exact ⟨rfl, Int.le_refl _, Int.le_refl _, id, id, id⟩
  · exact ⟨rfl, Int.le_refl _, Int.le_refl _, id, id, id⟩
  · exact ⟨rfl, Int.le_refl _, Int.le_refl _, id, id, id⟩
theorem one_shape {now : Pm18} {out : List Pr} {x : Pr} {y : Pm18 × List Pr} (h : oneM now out x = some y) : LessP now y.1 ∧ ∃ e, y.2 = out ++ e ∧ (e = [] ∨ ∃ d, e = [(x.1, d)]) := by
  unfold oneM at h
  split at h
  · cases h; exact ⟨LessP.refl _, _, rfl, .inr ⟨_, rfl⟩⟩
  · split at h
    · rename_i ht
      cases h
      refine ⟨ag_less _ (kf_any x.1).2 _ _ _ ht, ?_⟩
      simp only
      split
      · exact ⟨_, rfl, .inr ⟨_, rfl⟩⟩
      · exact ⟨[], by simp, .inl rfl⟩
    · cases h
theorem tkN_shape : ∀ (l : List Pr) (now : Pm18) (out : List Pr) (p' : Pm18) (out' : List Pr), tkN l now out = some (p', out') → LessP now p' ∧ ∃ e, out' = out ++ e ∧ List.Sublist (e.map Prod.fst) (l.map Prod.fst) := by
  intro l
  induction l with
  | nil => intro now out p' out' h; rw [tkN] at h; cases h; exact ⟨LessP.refl _, [], by simp, by simp⟩
  | cons x l ih =>
    intro now out p' out' h
    rw [tkN] at h
    cases hy : oneM now out x with
    | none => rw [hy] at h; cases h
    | some y =>
      rw [hy] at h
      obtain ⟨h1, e, h2, h3⟩ := one_shape hy
      obtain ⟨k1, e2, k2, k3⟩ := ih _ _ _ _ h
      refine ⟨h1.trans k1, e ++ e2, by rw [k2, h2, List.append_assoc], ?_⟩
      rcases h3 with rfl | ⟨d, rfl⟩
      · exact List.Sublist.cons _ k3
      · exact List.Sublist.cons_cons _ k3
theorem talk_no {p : Pm18} {l : List Pr} (h : ¬ (talkM p l).2.2 = 0) : talkM p l = ([], p, 1) := by
  unfold talkM at *
  cases ht : tkN l p [] with
  | none => rfl
  | some y => rw [ht] at h; exact absurd rfl h
theorem talk_yes {p q : Pm18} {l out : List Pr} (h : talkM p l = (out, q, 0)) : LessP p q ∧ q.fi ≤ q.bu ∧ List.Sublist (out.map Prod.fst) (l.map Prod.fst) := by
  unfold talkM at h
  cases ht : tkN l p [] with
  | none => rw [ht] at h; cases h
  | some y =>
    rw [ht] at h
    obtain ⟨now, o⟩ := y
    cases h
    obtain ⟨h1, e, h2, h3⟩ := tkN_shape _ _ _ _ _ ht
    refine ⟨⟨h1.mi, h1.bu, (by have := h1.fi; show min now.fi now.bu ≤ p.fi; omega), h1.mo, h1.asd, h1.ims⟩, (by show min now.fi now.bu ≤ now.bu; omega), ?_⟩
    rw [h2]; simpa using h3
theorem size_rpa : (Tryd.prog.info? 48).map (·.size) = some 11 := by kernel_rfl
set_option maxHeartbeats 4000000 in
theorem tParams_any (p : Pm18) (w : World) : Calls Tryd.prog 24 #[.agg #[.bool p.hs, .bool p.ds, .int .i64 p.mo, .int .i64 p.mi, .int .i64 p.bu, .int .i64 p.fi, .bool p.a, .bool p.imd, .bool p.di, .string p.ini, .string p.tgt]] w fun e w' => e = .returned (.agg #[.bool p.hs, .bool p.ds, .int .i64 p.mo, .int .i64 p.mi, .int .i64 p.bu, .int .i64 p.fi, .bool p.a, .bool p.imd, .bool p.di, .string p.ini, .string p.tgt]) ∧ Below w.heap.size w w' := by
  have N1 := Blk.new' w 50 [.bool p.hs, .bool p.ds, .int .i64 p.mo, .int .i64 p.mi, .int .i64 p.bu, .int .i64 p.fi, .bool p.a, .bool p.imd, .bool p.di, .string p.ini, .string p.tgt]
  have bn1 : Below w.heap.size w (w.alloc (.cells #[.bool p.hs, .bool p.ds, .int .i64 p.mo, .int .i64 p.mi, .int .i64 p.bu, .int .i64 p.fi, .bool p.a, .bool p.imd, .bool p.di, .string p.ini, .string p.tgt] 50)) := (Below.refl _ _).alloc (Nat.le_refl _) _
  obtain ⟨w1, hw1⟩ : ∃ w1, w1 = w.alloc (.cells #[.bool p.hs, .bool p.ds, .int .i64 p.mo, .int .i64 p.mi, .int .i64 p.bu, .int .i64 p.fi, .bool p.a, .bool p.imd, .bool p.di, .string p.ini, .string p.tgt] 50) := ⟨_, rfl⟩
  rw [← hw1] at N1 bn1
  have N2 := Blk.new' w1 48 [.bool false, .bool false, .int .i64 0, .int .i64 0, .int .i64 0, .int .i64 0, .bool false, .bool false, .bool false, .string ⟨#[]⟩, .string ⟨#[]⟩]
  have bn2 : Below w1.heap.size w1 (w1.alloc (.cells #[.bool false, .bool false, .int .i64 0, .int .i64 0, .int .i64 0, .int .i64 0, .bool false, .bool false, .bool false, .string ⟨#[]⟩, .string ⟨#[]⟩] 48)) := (Below.refl _ _).alloc (Nat.le_refl _) _
  obtain ⟨w2, hw2⟩ : ∃ w2, w2 = w1.alloc (.cells #[.bool false, .bool false, .int .i64 0, .int .i64 0, .int .i64 0, .int .i64 0, .bool false, .bool false, .bool false, .string ⟨#[]⟩, .string ⟨#[]⟩] 48) := ⟨_, rfl⟩
  rw [← hw2] at N2 bn2
  have z1 : w1.heap.size = w.heap.size + 1 := by rw [hw1]; simp
  obtain ⟨g, hg⟩ : ∃ g, g = w.heap.size := ⟨_, rfl⟩
  obtain ⟨r, hr⟩ : ∃ r, r = w.heap.size + 1 := ⟨_, rfl⟩
  rw [← hg] at N1
  rw [z1, ← hr] at N2
  have N1b := N1.laterB bn2
  have y0 := ck_at N1b 0
  have y1 := ck_at N1b 1
  have y2 := ck_at N1b 2
  have y3 := ck_at N1b 3
  have y4 := ck_at N1b 4
  have y5 := ck_at N1b 5
  have y6 := ck_at N1b 6
  have y7 := ck_at N1b 7
  have y8 := ck_at N1b 8
  have y9 := ck_at N1b 9
  have y10 := ck_at N1b 10
  simp only [List.getElem?_cons_zero, List.getElem?_cons_succ] at y0 y1 y2 y3 y4 y5 y6 y7 y8 y9 y10
  obtain ⟨w3, st, B3, g3⟩ := storeW (T := 48) (vs := [.bool p.hs, .bool p.ds, .int .i64 p.mo, .int .i64 p.mi, .int .i64 p.bu, .int .i64 p.fi, .bool p.a, .bool p.imd, .bool p.di, .string p.ini, .string p.tgt]) size_rpa N2 rfl (fun u hu => by simp at hu; rcases hu with rfl | rfl | rfl | rfl | rfl | rfl | rfl | rfl | rfl | rfl | rfl <;> rfl)
  have F : Hid _ := And.intro B3 (bel_grown (below_then bn1 bn2) g3 (show w.heap.size ≤ r by omega))
  clear B3 g3 bn1 bn2 N1 N2 N1b z1
  go_enter Tryd.func24, Tryd.ntmps24
  go_upto_region 1 with fail
  rw [← hw1, ← hw2, ← hr, ← hg]
  clear hw1 hw2 hr hg
  go_wp2_with (refine wpList_skip rfl (exec_store rfl rfl rfl st) ?_)
  clear st y0 y1 y2 y3 y4 y5 y6 y7 y8 y9 y10
  have z0 := ck_at F.out.1 0
  have z1 := ck_at F.out.1 1
  have z2 := ck_at F.out.1 2
  have z3 := ck_at F.out.1 3
  have z4 := ck_at F.out.1 4
  have z5 := ck_at F.out.1 5
  have z6 := ck_at F.out.1 6
  have z7 := ck_at F.out.1 7
  have z8 := ck_at F.out.1 8
  have z9 := ck_at F.out.1 9
  have z10 := ck_at F.out.1 10
  simp only [List.getElem?_cons_zero, List.getElem?_cons_succ] at z0 z1 z2 z3 z4 z5 z6 z7 z8 z9 z10
  refine bodyPost_ret (v := .agg #[.bool p.hs, .bool p.ds, .int .i64 p.mo, .int .i64 p.mi, .int .i64 p.bu, .int .i64 p.fi, .bool p.a, .bool p.imd, .bool p.di, .string p.ini, .string p.tgt]) (by simp [results, Tryd.results24, go_sem, z0, z1, z2, z3, z4, z5, z6, z7, z8, z9, z10]) rfl ?_
  exact ⟨rfl, F.out.2⟩
set_option maxHeartbeats 2000000 in
theorem rdefault (w : World) : Calls Tryd.prog 26 #[] w fun e w' => e = .returned (.agg #[.bool false, .bool false, .int .i64 8192, .int .i64 8192, .int .i64 262144, .int .i64 65536, .bool true, .bool true, .bool false, .string ⟨#[]⟩, .string ⟨#[]⟩]) ∧ Below w.heap.size w w' := by
  have b : Below w.heap.size w (w.alloc (.cells #[.bool false, .bool false, .int .i64 8192, .int .i64 8192, .int .i64 262144, .int .i64 65536, .bool true, .bool true, .bool false, .string ⟨#[]⟩, .string ⟨#[]⟩] 48)) := (Below.refl _ _).alloc (Nat.le_refl _) _
  have B := Blk.new' w 48 [.bool false, .bool false, .int .i64 8192, .int .i64 8192, .int .i64 262144, .int .i64 65536, .bool true, .bool true, .bool false, .string ⟨#[]⟩, .string ⟨#[]⟩]
  obtain ⟨w1, hw1⟩ : ∃ w1, w1 = w.alloc (.cells #[.bool false, .bool false, .int .i64 8192, .int .i64 8192, .int .i64 262144, .int .i64 65536, .bool true, .bool true, .bool false, .string ⟨#[]⟩, .string ⟨#[]⟩] 48) := ⟨_, rfl⟩
  rw [← hw1] at b B
  have F : Hid _ := And.intro B b
  clear B b
  go_enter Tryd.func26, Tryd.ntmps26
  go_wp2
  rw [← hw1]
  clear hw1
  have y0 := ck_at F.out.1 0
  have y1 := ck_at F.out.1 1
  have y2 := ck_at F.out.1 2
  have y3 := ck_at F.out.1 3
  have y4 := ck_at F.out.1 4
  have y5 := ck_at F.out.1 5
  have y6 := ck_at F.out.1 6
  have y7 := ck_at F.out.1 7
  have y8 := ck_at F.out.1 8
  have y9 := ck_at F.out.1 9
  have y10 := ck_at F.out.1 10
  simp only [List.getElem?_cons_zero, List.getElem?_cons_succ] at y0 y1 y2 y3 y4 y5 y6 y7 y8 y9 y10
  refine bodyPost_ret (v := .agg #[.bool false, .bool false, .int .i64 8192, .int .i64 8192, .int .i64 262144, .int .i64 65536, .bool true, .bool true, .bool false, .string ⟨#[]⟩, .string ⟨#[]⟩]) (by simp [results, Tryd.results26, go_sem, y0, y1, y2, y3, y4, y5, y6, y7, y8, y9, y10]) rfl ?_
  exact ⟨rfl, F.out.2⟩
set_option maxHeartbeats 2000000 in
theorem eqPa (p : Pm18) (w : World) : Sem.run Tryd.prog (Op.equalIn 10000 48 (.agg #[.bool p.hs, .bool p.ds, .int .i64 p.mo, .int .i64 p.mi, .int .i64 p.bu, .int .i64 p.fi, .bool p.a, .bool p.imd, .bool p.di, .string p.ini, .string p.tgt]) (.agg #[.bool p.hs, .bool p.ds, .int .i64 p.mo, .int .i64 p.mi, .int .i64 p.bu, .int .i64 p.fi, .bool p.a, .bool p.imd, .bool p.di, .string p.ini, .string p.tgt])) w = .ok true w := by
  have ub : Tryd.prog.underlying 4 = some .bool := Tryd.underlying4
  have ui : Tryd.prog.underlying 3 = some (.int .i64) := by kernel_rfl
  have us_ : Tryd.prog.underlying 9 = some .string := Tryd.underlying9
  have pb : Tryd.prog.plainKey 4 = true := by kernel_rfl
  have pi : Tryd.prog.plainKey 3 = true := by kernel_rfl
  have ps : Tryd.prog.plainKey 9 = true := by kernel_rfl
  have hf : (Tryd.prog.fieldsOf 48).toList.map (fun f => (f.name, f.type, f.offset)) = [("HeadSum", 4, 0), ("DataSum", 4, 1), ("MostOut", 3, 2), ("MostIn", 3, 3), ("Burst", 3, 4), ("First", 3, 5), ("Asked", 4, 6), ("Immediate", 4, 7), ("Discovery", 4, 8), ("Initiator", 9, 9), ("Target", 9, 10)] := by kernel_rfl
  rw [run_equalIn_struct w 9999 48 _ _ (by kernel_rfl) (by kernel_rfl)]
  generalize (Tryd.prog.fieldsOf 48).toList = fs at hf
  have hl2 : fs.length = 11 := by have := congrArg List.length hf; simpa using this
  obtain ⟨f0, f1, f2, f3, f4, f5, f6, f7, f8, f9, f10, rfl⟩ : ∃ f0 f1 f2 f3 f4 f5 f6 f7 f8 f9 f10, fs = [f0, f1, f2, f3, f4, f5, f6, f7, f8, f9, f10] := by
    match fs, hl2 with
    | [f0, f1, f2, f3, f4, f5, f6, f7, f8, f9, f10], _ => exact ⟨f0, f1, f2, f3, f4, f5, f6, f7, f8, f9, f10, rfl⟩
  simp only [List.map_cons, List.map_nil, List.cons.injEq, Prod.mk.injEq, and_true] at hf
  obtain ⟨⟨n0, t0, o0⟩, ⟨n1, t1, o1⟩, ⟨n2, t2, o2⟩, ⟨n3, t3, o3⟩, ⟨n4, t4, o4⟩, ⟨n5, t5, o5⟩, ⟨n6, t6, o6⟩, ⟨n7, t7, o7⟩, ⟨n8, t8, o8⟩, ⟨n9, t9, o9⟩, n10, t10, o10⟩ := hf
  have eb : ∀ a b : Bool, Sem.run Tryd.prog (Op.equalIn 9999 4 (.bool a) (.bool b)) w = .ok (a == b) w := fun a b => run_equalIn_bool' w 9998 4 a b ub
  have ei : ∀ a b : Int, Sem.run Tryd.prog (Op.equalIn 9999 3 (.int .i64 a) (.int .i64 b)) w = .ok (a == b) w := fun a b => run_equalIn_int w 9998 3 .i64 .i64 a b ui
  have es : ∀ a b : ByteArray, Sem.run Tryd.prog (Op.equalIn 9999 9 (.string a) (.string b)) w = .ok (a.toList == b.toList) w := fun a b => run_equalIn_string w 9998 9 a b us_
  have h0 : Sem.run Tryd.prog (part 4 #[.bool p.hs, .bool p.ds, .int .i64 p.mo, .int .i64 p.mi, .int .i64 p.bu, .int .i64 p.fi, .bool p.a, .bool p.imd, .bool p.di, .string p.ini, .string p.tgt] 0) w = .ok (.bool p.hs) w := run_part_plain w pb rfl
  have h1 : Sem.run Tryd.prog (part 4 #[.bool p.hs, .bool p.ds, .int .i64 p.mo, .int .i64 p.mi, .int .i64 p.bu, .int .i64 p.fi, .bool p.a, .bool p.imd, .bool p.di, .string p.ini, .string p.tgt] 1) w = .ok (.bool p.ds) w := run_part_plain w pb rfl
  have h2 : Sem.run Tryd.prog (part 3 #[.bool p.hs, .bool p.ds, .int .i64 p.mo, .int .i64 p.mi, .int .i64 p.bu, .int .i64 p.fi, .bool p.a, .bool p.imd, .bool p.di, .string p.ini, .string p.tgt] 2) w = .ok (.int .i64 p.mo) w := run_part_plain w pi rfl
  have h3 : Sem.run Tryd.prog (part 3 #[.bool p.hs, .bool p.ds, .int .i64 p.mo, .int .i64 p.mi, .int .i64 p.bu, .int .i64 p.fi, .bool p.a, .bool p.imd, .bool p.di, .string p.ini, .string p.tgt] 3) w = .ok (.int .i64 p.mi) w := run_part_plain w pi rfl
  have h4 : Sem.run Tryd.prog (part 3 #[.bool p.hs, .bool p.ds, .int .i64 p.mo, .int .i64 p.mi, .int .i64 p.bu, .int .i64 p.fi, .bool p.a, .bool p.imd, .bool p.di, .string p.ini, .string p.tgt] 4) w = .ok (.int .i64 p.bu) w := run_part_plain w pi rfl
  have h5 : Sem.run Tryd.prog (part 3 #[.bool p.hs, .bool p.ds, .int .i64 p.mo, .int .i64 p.mi, .int .i64 p.bu, .int .i64 p.fi, .bool p.a, .bool p.imd, .bool p.di, .string p.ini, .string p.tgt] 5) w = .ok (.int .i64 p.fi) w := run_part_plain w pi rfl
  have h6 : Sem.run Tryd.prog (part 4 #[.bool p.hs, .bool p.ds, .int .i64 p.mo, .int .i64 p.mi, .int .i64 p.bu, .int .i64 p.fi, .bool p.a, .bool p.imd, .bool p.di, .string p.ini, .string p.tgt] 6) w = .ok (.bool p.a) w := run_part_plain w pb rfl
  have h7 : Sem.run Tryd.prog (part 4 #[.bool p.hs, .bool p.ds, .int .i64 p.mo, .int .i64 p.mi, .int .i64 p.bu, .int .i64 p.fi, .bool p.a, .bool p.imd, .bool p.di, .string p.ini, .string p.tgt] 7) w = .ok (.bool p.imd) w := run_part_plain w pb rfl
  have h8 : Sem.run Tryd.prog (part 4 #[.bool p.hs, .bool p.ds, .int .i64 p.mo, .int .i64 p.mi, .int .i64 p.bu, .int .i64 p.fi, .bool p.a, .bool p.imd, .bool p.di, .string p.ini, .string p.tgt] 8) w = .ok (.bool p.di) w := run_part_plain w pb rfl
  have h9 : Sem.run Tryd.prog (part 9 #[.bool p.hs, .bool p.ds, .int .i64 p.mo, .int .i64 p.mi, .int .i64 p.bu, .int .i64 p.fi, .bool p.a, .bool p.imd, .bool p.di, .string p.ini, .string p.tgt] 9) w = .ok (.string p.ini) w := run_part_plain w ps rfl
  have h10 : Sem.run Tryd.prog (part 9 #[.bool p.hs, .bool p.ds, .int .i64 p.mo, .int .i64 p.mi, .int .i64 p.bu, .int .i64 p.fi, .bool p.a, .bool p.imd, .bool p.di, .string p.ini, .string p.tgt] 10) w = .ok (.string p.tgt) w := run_part_plain w ps rfl
  simp only [Op.eqFields, n0, t0, o0, n1, t1, o1, n2, t2, o2, n3, t3, o3, n4, t4, o4, n5, t5, o5, n6, t6, o6, n7, t7, o7, n8, t8, o8, n9, t9, o9, n10, t10, o10, Sem.run_bind, h0, h1, h2, h3, h4, h5, h6, h7, h8, h9, h10, eb, ei, es, Result.andThen_ok, Sem.run_ite, beq_self_eq_true]
  simp
end Go.Proofs.YtligmiajlbjecaaDoor

