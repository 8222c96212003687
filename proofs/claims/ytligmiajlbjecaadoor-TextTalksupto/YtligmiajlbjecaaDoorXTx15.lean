/- text: Put. -/
import Derived.Test.YtligmiajlbjecaaDoorXTx13
import Derived.Test.YtligmiajlbjecaaDoorXTx14
import Derived.Test.YtligmiajlbjecaaDoorXTx5
import Derived.Lib.AppendStr
namespace Go.Proofs.YtligmiajlbjecaaDoor
open Go.RowKit
set_option linter.unusedVariables false
set_option linter.unusedSimpArgs false
set_option maxRecDepth 8000

theorem strC_bvs (s : ByteArray) : Lib.strCells s = vals (bvs s.data.toList) := by
  unfold Lib.strCells vals bvs
  rw [List.map_map]
  refine List.map_congr_left (fun c _ => ?_)
  simp only [Function.comp, BitVec.toNat_ofNat]
  rw [Nat.mod_eq_of_lt c.toNat_lt]
theorem bvs_size (s : ByteArray) : (bvs s.data.toList).length = s.size := by rw [bvs_len]; simp
/-- append(v, s...) of a string, where v is the call's own -/
theorem wpList_append_str (w : World) {ops : Array Oper} {rest : List Oper} {o : Oper} {a : Act} {Q : Exit → Act → World → Prop} (hg : o.guard = none) (s x : Operand)
    (ho : o.op = .call { callee := .builtin .append, args := #[s, x], argTypes := #[23, 9] }) (base : Nat) (v : Value) (l : List (BitVec 8)) (hs : a.eval s = v) (hown : Own w base v l)
    (t : ByteArray) (hx : a.eval x = .string t) (hmax : l.length + t.size ≤ 140737488355328) (hbase : base ≤ w.heap.size)
    (k : ∀ (v' : Value) (w' : World), Own w' base v' (l ++ bvs t.data.toList) → w.grownBy w' v.ownBlock → wpList Tryd.prog ops Q rest (a.put o.dst v') w') :
    wpList Tryd.prog ops Q (o :: rest) a w := by
  obtain ⟨i0, hi, hz0, hz1, hz2⟩ := info_parts info_u8
  refine Lib.wpList_append_own_string w hg s x 23 9 ho base 5 i0 Tryd.underlying23 Tryd.underlying9 hi hz0 hz1 hz2 v l.length (vals l) hs hown t hx (by unfold maxLen; omega) hmax hbase ?_
  intro v' w' ho' hg' _
  refine k v' w' ?_ hg'
  unfold Own
  rw [vals_append, List.length_append, bvs_len, show t.data.toList.length = t.size by simp, ← strC_bvs]
  exact ho'
theorem own_far {w : World} {base g T : Nat} {v : Value} {l : List (BitVec 8)} {xs : List Value} (ho : Own w base v l) (hB : Blk w g T xs) (hT : T ≠ 5) : some g ≠ v.ownBlock := by
  intro e0
  have hk := e0.symm
  obtain ⟨h1, ⟨rfl, _⟩ | ⟨g', cap, cur, rfl, hb, hh, r⟩⟩ := ho
  · simp [Value.ownBlock] at hk
  · have e' : g' = g := by simpa [Value.ownBlock] using hk
    subst e'
    unfold Blk at hB
    rw [hh] at hB
    simp only [Option.some.injEq, Obj.cells.injEq] at hB
    exact hT hB.2.1.symm
def canP (x : ByteArray × ByteArray) : Bool := keyB18 x.1.data.toList && valB18 x.2.data.toList
def prB (x : ByteArray × ByteArray) : List (BitVec 8) := ((bvs x.1.data.toList ++ [61#8]) ++ bvs x.2.data.toList) ++ [0#8]
/-- pairs as bytes -/
def puB (l : List (ByteArray × ByteArray)) : List (BitVec 8) := l.flatMap prB
/-- what Put answers -/
def puR18 (l : List (ByteArray × ByteArray)) : List (BitVec 8) × Int := if 64 < l.length then ([], 3) else if l.all canP then (puB l, 0) else ([], 1)
theorem canP_size {x : ByteArray × ByteArray} (h : canP x = true) : x.1.size ≤ 63 ∧ x.2.size ≤ 255 := by
  unfold canP keyB18 valB18 at h
  simp only [Bool.and_eq_true, decide_eq_true_eq] at h
  have h1 := h.1.1.2
  have h2 := h.2.1
  have e1 : x.1.data.toList.length = x.1.size := by simp
  have e2 : x.2.data.toList.length = x.2.size := by simp
  omega
theorem prB_len (x : ByteArray × ByteArray) : (prB x).length = x.1.size + x.2.size + 2 := by
  unfold prB
  rw [List.length_append, List.length_append, List.length_append, bvs_len, bvs_len]
  have e1 : x.1.data.toList.length = x.1.size := by simp
  have e2 : x.2.data.toList.length = x.2.size := by simp
  simp only [List.length_singleton]
  omega
theorem puB_len {l : List (ByteArray × ByteArray)} (h : l.all canP = true) : (puB l).length ≤ 320 * l.length := by
  induction l with
  | nil => simp [puB]
  | cons x l ih =>
    rw [List.all_cons, Bool.and_eq_true] at h
    have h1 := ih h.2
    have h2 := canP_size h.1
    unfold puB at *
    rw [List.flatMap_cons, List.length_append, prB_len, List.length_cons]
    omega
theorem puB_snoc (l : List (ByteArray × ByteArray)) (x : ByteArray × ByteArray) : puB (l ++ [x]) = puB l ++ prB x := by
  unfold puB
  rw [List.flatMap_append]
  simp
theorem bad_pair {l : List (ByteArray × ByteArray)} {k : Nat} (hk : k < l.length) (h : canP (l[k]'hk) = false) : l.all canP = false := by
  rw [List.all_eq_false]
  exact ⟨_, List.getElem_mem hk, by rw [h]; decide⟩
set_option maxHeartbeats 8000000 in
theorem tPut_any (a : Option Addr) (c : Nat) (l : List (ByteArray × ByteArray)) (w : World) (hA : GAt kPr w (.slice a l.length c) l) (hl : l.length ≤ 140737488355328) :
    Calls Tryd.prog 10 #[.slice a l.length c] w fun e w' => ∃ z, e = .returned (.tuple #[z, .int .i64 (puR18 l).2]) ∧ Own w' w.heap.size z (puR18 l).1 ∧ Below w.heap.size w w' := by
  have HA : Hid _ := And.intro hA trivial
  have hlI : (l.length : Int) ≤ 140737488355328 := by omega
  clear hA
  by_cases h64 : 64 < l.length
  · have F : Hid (puR18 l = ([], 3)) := (if_pos h64 : puR18 l = ([], 3))
    have q : (64 : Int) < (l.length : Int) := by omega
    clear HA h64 hl
    generalize l.length = n at *
    go_enter Tryd.func10, Tryd.ntmps10
    go_wp2
    refine bodyPost_ret (v := .tuple #[.slice none 0 0, .int .i64 3]) (by first | rfl | simp [results, Tryd.results10, go_sem]) rfl ?_
    exact ⟨_, by rw [F.out], by rw [F.out]; exact Own.nil _ _, Below.refl _ _⟩
  · have q : ¬ (64 : Int) < (l.length : Int) := by omega
    have hR : Hid (puR18 l = if l.all canP then (puB l, 0) else ([], 1)) := (if_neg h64 : puR18 l = _)
    go_enter Tryd.func10, Tryd.ntmps10
    go_wp2_with fail
    go_loopw [4, 12] (fun bv iv wr => ∃ k : Nat, iv = .int .i64 (k : Int) ∧ k ≤ l.length ∧ Own wr w.heap.size bv (puB (l.take k)) ∧ Below w.heap.size w wr ∧ (l.take k).all canP = true) (fun _ iv _ => l.length - (intOf iv).toNat)
    case atStart => exact ⟨0, rfl, Nat.zero_le _, Own.nil _ _, Below.refl _ _, rfl⟩
    case round =>
      obtain ⟨k, rfl, hk, hO, hB, hal⟩ := hrel
      by_cases hlt : k < l.length
      · have q1 : (k : Int) < (l.length : Int) := by omega
        obtain ⟨b, off, rfl, hc⟩ := (HA.out.1).each kPr_ok k hlt
        have hc0 := hc 0 (by simp [kPr])
        have hc1 := hc 1 (by simp [kPr])
        simp only [kPr, List.getElem?_cons_zero, List.getElem?_cons_succ, Nat.add_zero] at hc0 hc1
        obtain ⟨x, hx⟩ : ∃ x, x = l[k] := ⟨_, rfl⟩
        have htk : l.take (k + 1) = l.take k ++ [x] := by rw [hx]; exact List.take_succ_eq_append_getElem hlt
        rw [← hx] at hc0 hc1
        have f0 := rcell hB hc0
        have f1 := rcell hB hc1
        have hbad : canP x = false → l.all canP = false := fun h => bad_pair hlt (by rw [← hx]; exact h)
        obtain ⟨xk, xv⟩ := x
        simp only at f0 f1
        have N1 := Blk.new' wr 59 [.string xk, .string xv]
        have bn : Below wr.heap.size wr (wr.alloc (.cells #[.string xk, .string xv] 59)) := (Below.refl _ _).alloc (Nat.le_refl _) _
        obtain ⟨w1, hw1⟩ : ∃ y, y = wr.alloc (.cells #[.string xk, .string xv] 59) := ⟨_, rfl⟩
        rw [← hw1] at N1 bn
        obtain ⟨xb, hxb⟩ : ∃ g, g = wr.heap.size := ⟨_, rfl⟩
        rw [← hxb] at N1
        have H1 : Hid _ := And.intro (Own.later hO bn) (And.intro (below_then hB bn) N1)
        have HK : Hid _ := tCanBe_any xk xv w1
        have hln := puB_len hal
        have hlk : (l.take k).length ≤ 64 := by rw [List.length_take]; omega
        have hL : (puB (l.take k)).length ≤ 20480 := by omega
        have HX : Hid _ := And.intro htk (And.intro hal (And.intro hbad hL))
        have hlz : Hid _ := And.intro hk h64
        clear hc hc0 hc1 hx htk hal hbad hO hB N1 bn hln hlk hL hk h64
        go_upto_region 7 with fail
        rw [← hw1, ← hxb]
        clear hw1 hxb f0 f1
        have y0 := ck_at H1.out.2.2 0
        have y1 := ck_at H1.out.2.2 1
        simp only [List.getElem?_cons_zero, List.getElem?_cons_succ] at y0 y1
        go_wp2_with fail
        refine (Calls.mono HK.out) ?_
        rintro e w2 ⟨rfl, b2⟩
        clear HK y0 y1
        have H2 : Hid _ := And.intro (Own.later H1.out.1 b2) (And.intro (below_then H1.out.2.1 b2) (H1.out.2.2.laterB b2))
        clear b2 H1
        have hcp : canP (xk, xv) = (keyB18 xk.data.toList && valB18 xv.data.toList) := rfl
        rw [← hcp]
        cases hcv : canP (xk, xv)
        · have F : Hid (puR18 l = ([], 1)) := (by rw [hR.out, HX.out.2.2.1 hcv]; rfl : puR18 l = ([], 1))
          have F2 : Hid _ := H2.out.2.1
          clear hcv hcp HX H2 hR HA
          go_wp2
          refine bodyPost_ret (v := .tuple #[.slice none 0 0, .int .i64 1]) (by first | rfl | simp [results, Tryd.results10, go_sem]) rfl ?_
          exact ⟨_, by rw [F.out], by rw [F.out]; exact Own.nil _ _, F2.out⟩
        · have hsx := canP_size hcv
          simp only at hsx
          have HS : Hid _ := And.intro hcv hsx
          clear hcv hcp hsx
          have y0 := ck_at H2.out.2.2 0
          have y1 := ck_at H2.out.2.2 1
          simp only [List.getElem?_cons_zero, List.getElem?_cons_succ] at y0 y1
          go_wp2_with (at_builtin; refine wpList_append_str _ rfl _ _ rfl w.heap.size _ (puB (l.take k)) rfl H2.out.1 xk rfl (by have := HX.out.2.2.2; have := HS.out.2.1; omega) H2.out.2.1.size ?_)
          intro v3 w3 o3 g3
          have P3 := H2.out.2.2.grown g3 (own_far H2.out.1 H2.out.2.2 (by decide))
          have b3 : Below w.heap.size w w3 := H2.out.2.1.grown g3 H2.out.2.1.size (own_block H2.out.1)
          have H3 : Hid _ := And.intro o3 (And.intro b3 P3)
          clear o3 g3 b3 P3 H2 y0 y1
          go_wp2_with (at_builtin; refine wpList_append_bytes _ rfl _ _ rfl w.heap.size _ (puB (l.take k) ++ bvs xk.data.toList) rfl (Own.later H3.out.1 ((Below.refl _ _).alloc (Nat.le_refl _) _)) (some ⟨w3.heap.size, 0, none⟩) 1 1 [61#8] rfl rfl (Row.newl _ _ _ _ _ rfl) (fun h => by cases h) (Nat.le_refl _) (by have e1 := HX.out.2.2.2; have e2 := HS.out.2; have e3 := bvs_size xk; have e4 := bvs_size xv; simp only [List.length_append, List.length_singleton]; omega) (by have := H3.out.2.1.size; simp; omega) ?_)
          intro v4 w4 o_ g
          have o : Own w4 w.heap.size v4 ((puB (l.take k) ++ bvs xk.data.toList) ++ [61#8]) := by simpa using o_
          clear o_
          have PA := (H3.out.2.2.laterB ((Below.refl w3.heap.size w3).alloc (Nat.le_refl _) _)).grown g (own_far H3.out.1 H3.out.2.2 (by decide))
          have bB : Below w.heap.size w w4 := (H3.out.2.1.alloc H3.out.2.1.size _).grown g (by have := H3.out.2.1.size; simp; omega) (own_block H3.out.1)
          have H4 : Hid _ := And.intro o (And.intro bB PA)
          clear o g bB PA H3
          have y0 := ck_at H4.out.2.2 0
          have y1 := ck_at H4.out.2.2 1
          simp only [List.getElem?_cons_zero, List.getElem?_cons_succ] at y0 y1
          go_wp2_with (at_builtin; refine wpList_append_str _ rfl _ _ rfl w.heap.size _ ((puB (l.take k) ++ bvs xk.data.toList) ++ [61#8]) rfl H4.out.1 xv rfl (by have e1 := HX.out.2.2.2; have e2 := HS.out.2; have e3 := bvs_size xk; have e4 := bvs_size xv; simp only [List.length_append, List.length_singleton]; omega) H4.out.2.1.size ?_)
          intro v5 w5 o_ g5
          have o5 : Own w5 w.heap.size v5 (((puB (l.take k) ++ bvs xk.data.toList) ++ [61#8]) ++ bvs xv.data.toList) := by simpa using o_
          clear o_
          have b5 : Below w.heap.size w w5 := H4.out.2.1.grown g5 H4.out.2.1.size (own_block H4.out.1)
          have P5 := H4.out.2.2.grown g5 (own_far H4.out.1 H4.out.2.2 (by decide))
          have H5 : Hid _ := And.intro o5 (And.intro b5 P5)
          clear o5 g5 b5 P5 H4 y0 y1
          go_wp2_with (at_builtin; refine wpList_append_bytes _ rfl _ _ rfl w.heap.size _ (((puB (l.take k) ++ bvs xk.data.toList) ++ [61#8]) ++ bvs xv.data.toList) rfl (Own.later H5.out.1 ((Below.refl _ _).alloc (Nat.le_refl _) _)) (some ⟨w5.heap.size, 0, none⟩) 1 1 [0#8] rfl rfl (Row.newl _ _ _ _ _ rfl) (fun h => by cases h) (Nat.le_refl _) (by have e1 := HX.out.2.2.2; have e2 := HS.out.2; have e3 := bvs_size xk; have e4 := bvs_size xv; simp only [List.length_append, List.length_singleton]; omega) (by have := H5.out.2.1.size; simp; omega) ?_)
          intro v6 w6 o_ g
          have o : Own w6 w.heap.size v6 ((((puB (l.take k) ++ bvs xk.data.toList) ++ [61#8]) ++ bvs xv.data.toList) ++ [0#8]) := by simpa using o_
          clear o_
          have PA := (H5.out.2.2.laterB ((Below.refl w5.heap.size w5).alloc (Nat.le_refl _) _)).grown g (own_far H5.out.1 H5.out.2.2 (by decide))
          have bB : Below w.heap.size w w6 := (H5.out.2.1.alloc H5.out.2.1.size _).grown g (by have := H5.out.2.1.size; simp; omega) (own_block H5.out.1)
          have H6 : Hid _ := And.intro o (And.intro bB PA)
          clear o g bB PA H5
          have eL : puB (l.take (k + 1)) = (((puB (l.take k) ++ bvs xk.data.toList) ++ [61#8]) ++ bvs xv.data.toList) ++ [0#8] := by rw [HX.out.1, puB_snoc]; unfold prB; simp only [List.append_assoc]
          have ea : (l.take (k + 1)).all canP = true := by rw [HX.out.1, List.all_append, HX.out.2.1]; simp [HS.out.1]
          have FF : Hid _ := And.intro H6.out.1 (And.intro H6.out.2.1 (And.intro eL ea))
          clear eL ea H6 HX HS
          go_wp2
          go_roundw
          case rel => exact ⟨k + 1, by first | rfl | (congr 1; omega), by omega, by rw [FF.out.2.2.1]; exact FF.out.1, FF.out.2.1, FF.out.2.2.2⟩
          case measure => simp [intOf]; omega
      · have htk : l.take k = l := List.take_of_length_le (by omega)
        rw [htk] at hO hal
        have F : Hid (puR18 l = (puB l, 0)) := (by rw [hR.out, hal]; rfl : puR18 l = (puB l, 0))
        have t1 : ¬ (k : Int) < (l.length : Int) := by omega
        have F2 : Hid _ := And.intro hO hB
        clear hO hB hal htk HA hR hlt h64
        go_wp2
        refine bodyPost_ret (v := .tuple #[u4, .int .i64 0]) (by first | rfl | simp [results, Tryd.results10, go_sem]) rfl ?_
        exact ⟨_, by rw [F.out], by rw [F.out]; exact F2.out.1, F2.out.2⟩
end Go.Proofs.YtligmiajlbjecaaDoor

/- text: pairs and their bytes, without Go. -/
namespace Go.Proofs.YtligmiajlbjecaaDoor
open Go.RowKit
set_option linter.unusedVariables false
set_option linter.unusedSimpArgs false
set_option maxRecDepth 8000

abbrev Pr := ByteArray × ByteArray
def mkS (l : List UInt8) : ByteArray := ⟨l.toArray⟩
theorem mkS_list (l : List UInt8) : (mkS l).data.toList = l := by simp [mkS]
theorem mkS_back (s : ByteArray) : mkS s.data.toList = s := by cases s; simp [mkS]
/-- a line, cut at its first '=' -/
def cutE : List UInt8 → Option (List UInt8 × List UInt8)
  | [] => none
  | c :: l => if c = 61 then some ([], l) else (cutE l).map fun x => (c :: x.1, x.2)
theorem cutE_none {x : List UInt8} (h : ∀ c ∈ x, c ≠ 61) : cutE x = none := by
  induction x with
  | nil => rfl
  | cons c x ih =>
    unfold cutE
    rw [if_neg (h c (List.mem_cons_self ..)), ih fun d hd => h d (List.mem_cons_of_mem _ hd)]
    rfl
theorem cutE_some {x : List UInt8} (y : List UInt8) (h : ∀ c ∈ x, c ≠ 61) : cutE (x ++ 61 :: y) = some (x, y) := by
  induction x with
  | nil => rfl
  | cons c x ih =>
    show cutE (c :: (x ++ 61 :: y)) = _
    unfold cutE
    rw [if_neg (h c (List.mem_cons_self ..)), ih fun d hd => h d (List.mem_cons_of_mem _ hd)]
    rfl
theorem cutE_eq {l x y : List UInt8} (h : cutE l = some (x, y)) : l = x ++ 61 :: y := by
  induction l generalizing x y with
  | nil => cases h
  | cons c l ih =>
    unfold cutE at h
    by_cases e : c = 61
    · rw [if_pos e] at h
      cases h
      rw [e]; rfl
    · rw [if_neg e] at h
      cases hc : cutE l with
      | none => rw [hc] at h; cases h
      | some p =>
        rw [hc] at h
        obtain ⟨x', y'⟩ := p
        cases h
        rw [ih hc]; rfl
/-- a pair that may stand behind those that stand -/
def okL (out : List Pr) (p : Pr) : Bool := canP p && !(out.any fun q => decide (q.1 = p.1))
/-- one line's pair -/
def lineP (out : List Pr) (line : List UInt8) : Option Pr :=
  match cutE line with
  | none => none
  | some (x, y) => if okL out (mkS x, mkS y) then some (mkS x, mkS y) else none
/-- the pairs that stand, the line so far: what is answered of the bytes that follow -/
def gtN : List UInt8 → List Pr → List UInt8 → List Pr × Int
  | [], out, _ => (out, 0)
  | c :: r, out, line =>
    if c = 0 then
      if out.length = 64 then ([], 3)
      else match lineP out line with
        | none => ([], 11)
        | some p => gtN r (out ++ [p]) []
    else gtN r out (line ++ [c])
/-- what Get answers -/
def gtR (l : List UInt8) : List Pr × Int := if l.getLast?.getD 0 = 0 then gtN l [] [] else ([], 10)
theorem gtN_more {x : List UInt8} (h : ∀ c ∈ x, c ≠ 0) (r : List UInt8) (out : List Pr) (line : List UInt8) : gtN (x ++ r) out line = gtN r out (line ++ x) := by
  induction x generalizing line with
  | nil => simp
  | cons c x ih =>
    show gtN (c :: (x ++ r)) out line = _
    rw [gtN, if_neg (h c (List.mem_cons_self ..)), ih fun d hd => h d (List.mem_cons_of_mem _ hd)]
    simp
theorem gtN_one {c : UInt8} (h : c ≠ 0) (r : List UInt8) (out : List Pr) (line : List UInt8) : gtN (c :: r) out line = gtN r out (line ++ [c]) := by
  rw [gtN, if_neg h]
theorem gtN_full {out : List Pr} (h : out.length = 64) (r : List UInt8) (line : List UInt8) : gtN (0 :: r) out line = ([], 3) := by
  rw [gtN, if_pos rfl, if_pos h]
theorem gtN_bad {out : List Pr} (h : ¬ out.length = 64) (r : List UInt8) {line : List UInt8} (hl : lineP out line = none) : gtN (0 :: r) out line = ([], 11) := by
  rw [gtN, if_pos rfl, if_neg h, hl]
theorem gtN_ok {out : List Pr} (h : ¬ out.length = 64) (r : List UInt8) {line : List UInt8} {p : Pr} (hl : lineP out line = some p) : gtN (0 :: r) out line = gtN r (out ++ [p]) [] := by
  rw [gtN, if_pos rfl, if_neg h, hl]
theorem lineP_none {out : List Pr} {x : List UInt8} (h : ∀ c ∈ x, c ≠ 61) : lineP out x = none := by
  unfold lineP; rw [cutE_none h]
theorem lineP_some {out : List Pr} {x : List UInt8} (y : List UInt8) (h : ∀ c ∈ x, c ≠ 61) : lineP out (x ++ 61 :: y) = if okL out (mkS x, mkS y) then some (mkS x, mkS y) else none := by
  unfold lineP; rw [cutE_some y h]
theorem lineP_eq {out : List Pr} {line : List UInt8} {p : Pr} (h : lineP out line = some p) : line = p.1.data.toList ++ 61 :: p.2.data.toList ∧ okL out p = true := by
  unfold lineP at h
  cases hc : cutE line with
  | none => rw [hc] at h; cases h
  | some q =>
    obtain ⟨x, y⟩ := q
    rw [hc] at h
    simp only at h
    by_cases hk : okL out (mkS x, mkS y) = true
    · rw [if_pos hk] at h
      cases h
      exact ⟨by rw [mkS_list, mkS_list]; exact cutE_eq hc, hk⟩
    · rw [if_neg hk] at h; cases h
/-- pairs as bytes -/
def prs (l : List Pr) : List UInt8 := l.flatMap fun x => x.1.data.toList ++ 61 :: x.2.data.toList ++ [0]
theorem bvs_app (a b : List UInt8) : bvs (a ++ b) = bvs a ++ bvs b := List.map_append
theorem prs_snoc (l : List Pr) (x : Pr) : prs (l ++ [x]) = prs l ++ (x.1.data.toList ++ 61 :: x.2.data.toList ++ [0]) := by
  unfold prs
  rw [List.flatMap_append]
  simp
theorem prs_cons (l : List Pr) (x : Pr) : prs (x :: l) = (x.1.data.toList ++ 61 :: x.2.data.toList ++ [0]) ++ prs l := by
  unfold prs
  rw [List.flatMap_cons]
theorem puB_prs (l : List Pr) : puB l = bvs (prs l) := by
  induction l with
  | nil => rfl
  | cons x l ih =>
    rw [prs_cons, bvs_app, ← ih]
    unfold puB
    rw [List.flatMap_cons]
    congr 1
    unfold prB bvs
    simp
theorem key_no {l : List UInt8} (h : keyB18 l = true) : (∀ c ∈ l, c ≠ 0) ∧ ∀ c ∈ l, c ≠ 61 := by
  unfold keyB18 at h
  rw [Bool.and_eq_true] at h
  have h2 := List.all_eq_true.1 h.2
  constructor
  · intro c hc e
    have := h2 c hc
    rw [e] at this
    exact absurd this (by decide)
  · intro c hc e
    have := h2 c hc
    rw [e] at this
    exact absurd this (by decide)
theorem val_no {l : List UInt8} (h : valB18 l = true) : ∀ c ∈ l, c ≠ 0 := by
  unfold valB18 at h
  rw [Bool.and_eq_true] at h
  have h2 := List.all_eq_true.1 h.2
  intro c hc e
  have := h2 c hc
  rw [e] at this
  exact absurd this (by decide)
/-- no key stands twice -/
def dist : List Pr → List Pr → Bool
  | _, [] => true
  | out, p :: l => !(out.any fun q => decide (q.1 = p.1)) && dist (out ++ [p]) l
theorem gt_back (l : List Pr) : ∀ (out : List Pr), l.all canP = true → dist out l = true → out.length + l.length ≤ 64 → gtN (prs l) out [] = (out ++ l, 0) := by
  induction l with
  | nil => intro out _ _ _; rw [List.append_nil]; rfl
  | cons p l ih =>
    intro out ha hd hn
    rw [List.all_cons, Bool.and_eq_true] at ha
    unfold dist at hd
    rw [Bool.and_eq_true] at hd
    have hc := ha.1
    unfold canP at hc
    rw [Bool.and_eq_true] at hc
    have hk := key_no hc.1
    have hv := val_no hc.2
    have hln : lineP out (p.1.data.toList ++ 61 :: p.2.data.toList) = some p := by
      rw [lineP_some _ hk.2, mkS_back, mkS_back, if_pos]
      unfold okL
      rw [ha.1, hd.1]; rfl
    rw [prs_cons, List.append_assoc, gtN_more (x := p.1.data.toList ++ 61 :: p.2.data.toList), List.nil_append]
    · show gtN (0 :: prs l) out _ = _
      rw [List.length_cons] at hn
      rw [gtN_ok (by omega) _ hln, ih (out ++ [p]) ha.2 hd.2 (by rw [List.length_append, List.length_singleton]; omega)]
      simp
    · intro c hm
      rcases List.mem_append.1 hm with h | h
      · exact hk.1 c h
      · rcases List.mem_cons.1 h with h | h
        · rw [h]; decide
        · exact hv c h
theorem gt_there (r : List UInt8) : ∀ (out : List Pr) (line : List UInt8) (q : List Pr), gtN r out line = (q, 0) → (r = [] → line = []) → r.getLast?.getD 0 = 0 → out.all canP = true → out.length ≤ 64 →
    prs q = prs out ++ line ++ r ∧ q.all canP = true ∧ q.length ≤ 64 := by
  induction r with
  | nil =>
    intro out line q h h1 _ h3 h4
    rw [gtN] at h
    cases h
    rw [h1 rfl]
    exact ⟨by simp, h3, h4⟩
  | cons c r ih =>
    intro out line q h h1 h2 h3 h4
    by_cases hc : c = 0
    · subst hc
      by_cases h64 : out.length = 64
      · rw [gtN_full h64] at h; cases h
      · cases hl : lineP out line with
        | none => rw [gtN_bad h64 _ hl] at h; cases h
        | some p =>
          rw [gtN_ok h64 _ hl] at h
          obtain ⟨e1, e2⟩ := lineP_eq hl
          unfold okL at e2
          rw [Bool.and_eq_true] at e2
          obtain ⟨f1, f2, f3⟩ := ih (out ++ [p]) [] q h (fun _ => rfl) (by
            cases r with
            | nil => rfl
            | cons d r => simpa using h2) (by rw [List.all_append, h3]; simp [e2.1]) (by rw [List.length_append, List.length_singleton]; omega)
          refine ⟨?_, f2, f3⟩
          rw [f1, prs_snoc, e1]
          simp
    · rw [gtN_one hc] at h
      have hr : r ≠ [] := by
        rintro rfl
        exact hc (by simpa using h2)
      obtain ⟨f1, f2, f3⟩ := ih out (line ++ [c]) q h (fun e => absurd e hr) (by
        cases r with
        | nil => exact absurd rfl hr
        | cons d r => simpa using h2) h3 h4
      refine ⟨?_, f2, f3⟩
      rw [f1]
      simp
theorem gtR_there {l : List UInt8} {q : List Pr} (h : gtR l = (q, 0)) : puR18 q = (bvs l, 0) := by
  unfold gtR at h
  split at h
  · rename_i hl
    obtain ⟨f1, f2, f3⟩ := gt_there l [] [] q h (fun _ => rfl) hl rfl (by decide)
    unfold puR18
    rw [if_neg (by omega), f2, if_pos rfl, puB_prs, f1]
    simp [prs]
  · cases h
theorem prs_last (l : List Pr) : (prs l).getLast?.getD 0 = 0 := by
  rcases List.eq_nil_or_concat l with rfl | ⟨l', x, rfl⟩
  · rfl
  · rw [List.concat_eq_append, prs_snoc, ← List.append_assoc, List.getLast?_concat]
    rfl
theorem gtR_back {l : List Pr} {x : List (BitVec 8)} (h : puR18 l = (x, 0)) (hd : dist [] l = true) : gtR (prs l) = (l, 0) ∧ x = bvs (prs l) := by
  unfold puR18 at h
  split at h
  · cases h
  · rename_i h64
    split at h
    · rename_i ha
      cases h
      refine ⟨?_, puB_prs l⟩
      unfold gtR
      rw [if_pos (prs_last l), gt_back l [] ha hd (by simp; omega)]
      rfl
    · cases h
theorem gtN_few (r : List UInt8) : ∀ (out : List Pr) (line : List UInt8), out.length ≤ 64 → (gtN r out line).1.length ≤ 64 := by
  induction r with
  | nil => intro out line h; exact h
  | cons c r ih =>
    intro out line h
    unfold gtN
    split
    · split
      · simp
      · split
        · simp
        · exact ih _ _ (by rw [List.length_append, List.length_singleton]; omega)
    · exact ih _ _ h
theorem gtR_few (l : List UInt8) : (gtR l).1.length ≤ 64 := by
  unfold gtR
  split
  · exact gtN_few _ _ _ (by simp)
  · simp
end Go.Proofs.YtligmiajlbjecaaDoor

/- text: stands. -/
namespace Go.Proofs.YtligmiajlbjecaaDoor
open Go.RowKit
set_option linter.unusedVariables false
set_option linter.unusedSimpArgs false
set_option maxRecDepth 8000

theorem beq_toList (a b : ByteArray) : (a.toList == b.toList) = decide (a = b) := by
  rw [ByteArray.toList_eq, ByteArray.toList_eq]
  by_cases h : a = b
  · subst h; simp
  · have h2 : ¬ a.data.toList = b.data.toList := fun e => h (by cases a; cases b; simp at e; rw [e])
    rw [beq_eq_false_iff_ne.2 h2, decide_eq_false h]
set_option maxHeartbeats 800000 in
theorem tSt1_any (c : Pr) (key : ByteArray) (rb : Nat) (w : World) (hB : w.cell? ⟨rb, 0, none⟩ = some (.string key)) :
    Calls Tryd.prog 44 #[.agg #[.string c.1, .string c.2], .pointer (some ⟨rb, 0, none⟩)] w fun e w' => e = .returned (.bool (decide (c.1 = key))) ∧ Below w.heap.size w w' := by
  have b2 : Below w.heap.size w (w.alloc (.cells #[.string c.1, .string c.2] 59)) := (Below.refl _ _).alloc (Nat.le_refl _) _
  have M := Blk.new' w 59 [.string c.1, .string c.2]
  have k0 := blk_at M 0
  simp at k0
  have k1 := cell_later b2 hB
  have F : Hid _ := b2
  have E : Hid ((c.1.toList == key.toList) = (decide (c.1 = key))) := beq_toList c.1 key
  clear b2 M hB
  go_enter Tryd.func44, Tryd.ntmps44
  go_wp2
  go_ret
  exact ⟨ret_bool (by first | exact E.out | (rw [← E.out]; simp)), F.out⟩
/-- where the pair of a key stands: -1, if nowhere -/
structure IxP (l : List Pr) (n : ByteArray) (i : Int) : Prop where
  is : (i = -1 ∧ ∀ x ∈ l, ¬ x.1 = n) ∨ ∃ k : Nat, i = k ∧ ∃ h : k < l.length, l[k].1 = n
set_option maxHeartbeats 2000000 in
theorem tIx_any (a : Option Addr) (c : Nat) (l : List Pr) (rb : Nat) (n : ByteArray) (w : World) (ho : GAt kPr w (.slice a l.length c) l) (hl : l.length ≤ 20000) (hB : w.cell? ⟨rb, 0, none⟩ = some (.string n)) :
    Calls Tryd.prog 55 #[.slice a l.length c, .func (.func 44) #[] #[.pointer (some ⟨rb, 0, none⟩)]] w fun e w' => (∃ i : Int, e = .returned (.int .i64 i) ∧ IxP l n i) ∧ Below w.heap.size w w' := by
  have HA : Hid _ := And.intro ho hB
  clear ho hB
  go_enter Tryd.func55, Tryd.ntmps55
  go_wp2_with fail
  go_loopw [8] (fun iv wr => ∃ (k : Nat), iv = .int .i64 k ∧ k ≤ l.length ∧ (∀ x ∈ l.take k, ¬ x.1 = n) ∧ Below w.heap.size w wr) (fun iv _ => l.length - (intOf iv).toNat)
  case atStart => exact ⟨0, rfl, by omega, by simp, Below.refl _ _⟩
  case round =>
    obtain ⟨k, rfl, hk, hno, hb⟩ := hrel
    by_cases hlt : k < l.length
    · obtain ⟨b, off, rfl, hc⟩ := (HA.out.1).each kPr_ok k hlt
      have k1 := cell_later hb (show w.cell? ⟨b, off + k * 2, none⟩ = some (.string l[k].1) from hc 0 (by simp [kPr]))
      have k2 := cell_later hb (show w.cell? ⟨b, off + k * 2 + 1, none⟩ = some (.string l[k].2) from hc 1 (by simp [kPr]))
      have q1 : (k : Int) < l.length := by omega
      have H1 : Hid _ := tSt1_any l[k] n rb wr (cell_later hb HA.out.2)
      have hsn : l.take (k + 1) = l.take k ++ [l[k]] := List.take_succ_eq_append_getElem hlt
      have hix : l[k].1 = n → IxP l n k := fun e => ⟨.inr ⟨k, rfl, hlt, e⟩⟩
      generalize l[k] = x at *
      have G : Hid _ := And.intro hno (And.intro hb (And.intro hsn hix))
      clear hno hb hc hsn hix
      by_cases hx : x.1 = n
      · rw [decide_eq_true hx] at H1
        have HX : Hid _ := hx
        clear hx
        go_wp2_with fail
        refine (Calls.mono H1.out) ?_
        rintro e w2 ⟨rfl, b2⟩
        have F : Hid _ := below_then G.out.2.1 b2
        clear b2 H1
        go_wp2
        go_ret
        exact ⟨⟨_, rfl, G.out.2.2.2 HX.out⟩, F.out⟩
      · rw [decide_eq_false hx] at H1
        go_wp2_with fail
        refine (Calls.mono H1.out) ?_
        rintro e w2 ⟨rfl, b2⟩
        have F : Hid _ := below_then G.out.2.1 b2
        have F2 : Hid (∀ y ∈ l.take (k + 1), ¬ y.1 = n) := (show ∀ y ∈ l.take (k + 1), ¬ y.1 = n from by
          rw [G.out.2.2.1]
          intro y hy
          rcases List.mem_append.1 hy with hy | hy
          · exact G.out.1 y hy
          · rw [List.mem_singleton.1 hy]; exact hx)
        clear b2 H1 G
        go_wp2
        go_roundw
        case rel => exact ⟨k + 1, by go_num, by omega, F2.out, F.out⟩
        case measure => simp [intOf]; omega
    · have hkl : k = l.length := by omega
      subst hkl
      have F : Hid _ := And.intro (⟨.inl ⟨rfl, by simpa using hno⟩⟩ : IxP l n (-1)) hb
      clear hno hb
      go_wp2
      go_ret
      exact ⟨⟨_, rfl, F.out.1⟩, F.out.2⟩
set_option maxHeartbeats 800000 in
theorem tHasP_any (a : Option Addr) (c : Nat) (l : List Pr) (rb : Nat) (n : ByteArray) (w : World) (ho : GAt kPr w (.slice a l.length c) l) (hl : l.length ≤ 20000) (hB : w.cell? ⟨rb, 0, none⟩ = some (.string n)) :
    Calls Tryd.prog 43 #[.slice a l.length c, .func (.func 44) #[] #[.pointer (some ⟨rb, 0, none⟩)]] w fun e w' => e = .returned (.bool (l.any (fun q => decide (q.1 = n)))) ∧ Below w.heap.size w w' := by
  have H : Hid _ := tIx_any a c l rb n w ho hl hB
  clear ho hB hl
  go_enter Tryd.func43, Tryd.ntmps43
  go_wp2_with fail
  refine (Calls.mono H.out) ?_
  rintro e w2 ⟨⟨i, rfl, hi⟩, b2⟩
  have E : Hid (decide (0 ≤ i) = l.any (fun q => decide (q.1 = n))) := (show decide (0 ≤ i) = l.any (fun q => decide (q.1 = n)) from by
    rcases hi.is with ⟨rfl, hno⟩ | ⟨k, rfl, hk, hx⟩
    · symm; simpa using hno
    · rw [decide_eq_true (by omega)]
      exact (List.any_eq_true.2 ⟨l[k], List.getElem_mem _, by simpa using hx⟩).symm)
  have F : Hid _ := b2
  clear b2 hi H
  go_wp2
  go_ret
  exact ⟨ret_bool E.out, F.out⟩
set_option maxHeartbeats 800000 in
theorem tStands_any (a : Option Addr) (c : Nat) (l : List Pr) (n : ByteArray) (w : World) (ho : GAt kPr w (.slice a l.length c) l) (hl : l.length ≤ 20000) :
    Calls Tryd.prog 34 #[.slice a l.length c, .string n] w fun e w' => e = .returned (.bool (l.any (fun q => decide (q.1 = n)))) ∧ Below w.heap.size w w' := by
  have b2 : Below w.heap.size w (w.alloc (.cells #[.string n] 9)) := (Below.refl _ _).alloc (Nat.le_refl _) _
  have M : (w.alloc (.cells #[.string n] 9)).cell? ⟨w.heap.size, 0, none⟩ = some (.string n) := blk_at (Blk.new' w 9 [.string n]) 0
  have H : Hid _ := tHasP_any a c l w.heap.size n _ (gat_later b2 ho) hl M
  have F : Hid _ := b2
  clear b2 M ho hl
  go_enter Tryd.func34, Tryd.ntmps34
  go_wp2_with fail
  refine (Calls.mono H.out) ?_
  rintro e w2 ⟨rfl, b3⟩
  have F2 : Hid _ := below_then F.out b3
  clear b3 H F
  go_wp2
  go_ret
  exact ⟨rfl, F2.out⟩
end Go.Proofs.YtligmiajlbjecaaDoor
