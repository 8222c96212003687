/- text: a list's words, without Go; slices of strings. -/
import Derived.Test.YtligmiajlbjecaaDoorXTy4
namespace Go.Proofs.YtligmiajlbjecaaDoor
open Go.RowKit
set_option linter.unusedVariables false
set_option linter.unusedSimpArgs false
set_option maxRecDepth 8000

/-- a list's words -/
def wdL : List UInt8 → List (List UInt8)
  | [] => [[]]
  | c :: l => if c = 44 then [] :: wdL l else match wdL l with
    | [] => [[c]]
    | x :: r => (c :: x) :: r
theorem wdL_none {l : List UInt8} (h : cutC l = none) : wdL l = [l] := by
  induction l with
  | nil => rfl
  | cons c l ih =>
    unfold cutC at h
    split at h
    · cases h
    · rename_i hc
      cases hk : cutC l with
      | none => unfold wdL; rw [if_neg hc, ih hk]
      | some p => rw [hk] at h; cases h
theorem wdL_some {l x y : List UInt8} (h : cutC l = some (x, y)) : wdL l = x :: wdL y := by
  induction l generalizing x with
  | nil => cases h
  | cons c l ih =>
    unfold cutC at h
    split at h
    · rename_i hc
      cases h
      conv => lhs; unfold wdL
      rw [if_pos hc]
    · rename_i hc
      cases hk : cutC l with
      | none => rw [hk] at h; cases h
      | some p =>
        obtain ⟨a, b⟩ := p
        rw [hk] at h
        cases h
        conv => lhs; unfold wdL
        rw [if_neg hc, ih hk]
theorem wdL_len : ∀ l : List UInt8, (wdL l).length ≤ l.length + 1 := by
  intro l
  induction l with
  | nil => simp [wdL]
  | cons c l ih =>
    unfold wdL
    split
    · simp; omega
    · split <;> (rename_i h; rw [h] at ih; simp at ih ⊢; try omega)
/-- the first word that is known -/
def fstW (ks : List ByteArray) : List ByteArray → ByteArray
  | [] => rejS
  | x :: r => if Lib.containsS ks x then x else fstW ks r
def wdS (s : ByteArray) : List ByteArray := (wdL s.data.toList).map mkS
theorem wdS_len (s : ByteArray) : (wdS s).length ≤ s.size + 1 := by
  have h := wdL_len s.data.toList
  have e : s.data.toList.length = s.size := by simp
  unfold wdS
  rw [List.length_map]; omega
theorem firstM_words (ks : List ByteArray) : ∀ (n : Nat) (s : ByteArray), s.size ≤ n → firstM ks s = fstW ks (wdS s) := by
  intro n
  induction n with
  | zero =>
    intro s h
    have e : s.data.toList = [] := List.length_eq_zero_iff.1 (by simpa using h)
    have hc : cutC s.data.toList = none := by rw [e]; rfl
    have hcs : cutS s = (s, ⟨#[]⟩, false) := by unfold cutS; rw [hc]
    unfold wdS
    rw [wdL_none hc, List.map_cons, mkS_back, List.map_nil]
    unfold fstW
    cases hk : Lib.containsS ks s with
    | true => rw [firstM_yes (by rw [hcs]; exact hk), hcs]; simp
    | false => rw [firstM_end (by rw [hcs]; exact hk) (by rw [hcs])]; simp [fstW]
  | succ n ih =>
    intro s h
    cases hc : cutC s.data.toList with
    | none =>
      have hcs : cutS s = (s, ⟨#[]⟩, false) := by unfold cutS; rw [hc]
      unfold wdS
      rw [wdL_none hc, List.map_cons, mkS_back, List.map_nil]
      unfold fstW
      cases hk : Lib.containsS ks s with
      | true => rw [firstM_yes (by rw [hcs]; exact hk), hcs]; simp
      | false => rw [firstM_end (by rw [hcs]; exact hk) (by rw [hcs])]; simp [fstW]
    | some p =>
      obtain ⟨x, y⟩ := p
      have hcs : cutS s = (mkS x, mkS y, true) := by unfold cutS; rw [hc]
      have hlt : (mkS y).size < s.size := by have := cutS_less (s := s) (by rw [hcs]); rw [hcs] at this; exact this
      have hw : wdS s = mkS x :: wdS (mkS y) := by unfold wdS; rw [wdL_some hc, List.map_cons]; simp [mkS]
      rw [hw]
      unfold fstW
      cases hk : Lib.containsS ks (mkS x) with
      | true => rw [firstM_yes (by rw [hcs]; exact hk), hcs]; simp
      | false =>
        rw [firstM_next (by rw [hcs]; exact hk) (by rw [hcs]), hcs]; show firstM ks (mkS y) = _; rw [ih _ (by omega)]; simp
/-- where one is within a list: what is behind 'first' is cut into words still -/
def WdI (l : List UInt8) (i first : Nat) (out : List ByteArray) : Prop :=
  (i ≤ l.length → first ≤ i ∧ out ++ (wdL (l.drop first)).map mkS = (wdL l).map mkS ∧ ∀ k, first ≤ k → k < i → l[k]? ≠ some 44) ∧ (i = l.length + 1 → out = (wdL l).map mkS) ∧ i ≤ l.length + 1 ∧ out.length ≤ i
theorem WdI.start (l : List UInt8) : WdI l 0 0 [] := ⟨fun _ => ⟨Nat.le_refl _, rfl, fun k _ h => by omega⟩, fun h => by omega, by omega, by simp⟩
theorem WdI.over {l : List UInt8} {i first : Nat} {out : List ByteArray} (h : WdI l i first out) (hi : i < l.length) (hc : l[i]? ≠ some 44) : WdI l (i + 1) first out := by
  obtain ⟨h1, h2, h3⟩ := h.1 (by omega)
  refine ⟨fun _ => ⟨by omega, h2, fun k hk hk2 => ?_⟩, fun e => by omega, by omega, by have := h.2.2.2; omega⟩
  rcases Nat.lt_or_ge k i with e | e
  · exact h3 k hk e
  · obtain rfl : k = i := by omega
    exact hc
theorem WdI.comma {l : List UInt8} {i first : Nat} {out : List ByteArray} (h : WdI l i first out) (hi : i < l.length) (hc : l[i]? = some 44) : WdI l (i + 1) (i + 1) (out ++ [mkS ((l.take i).drop first)]) := by
  obtain ⟨h1, h2, h3⟩ := h.1 (by omega)
  have hcut : cutC (l.drop first) = some ((l.take i).drop first, l.drop (i + 1)) := by
    have := cutC_some (l := l.drop first) (o := i - first) (by rw [List.getElem?_drop]; rw [show first + (i - first) = i by omega]; exact hc) (fun k hk => by rw [List.getElem?_drop]; exact h3 (first + k) (by omega) (by omega))
    rw [this, List.drop_drop, show first + (i - first + 1) = i + 1 by omega, List.drop_take]
  refine ⟨fun _ => ⟨Nat.le_refl _, ?_, fun k hk hk2 => by omega⟩, fun e => by omega, by omega, by have := h.2.2.2; simp; omega⟩
  rw [← h2, wdL_some hcut, List.map_cons, List.append_assoc]; rfl
theorem WdI.last {l : List UInt8} {i first : Nat} {out : List ByteArray} (h : WdI l i first out) (hi : i = l.length) : WdI l (i + 1) (i + 1) (out ++ [mkS ((l.take i).drop first)]) := by
  obtain ⟨h1, h2, h3⟩ := h.1 (by omega)
  have hcut : cutC (l.drop first) = none := cutC_none (fun k => by
    rw [List.getElem?_drop]
    rcases Nat.lt_or_ge (first + k) i with e | e
    · exact h3 _ (by omega) e
    · rw [List.getElem?_eq_none (by omega)]; simp)
  refine ⟨fun e => by omega, fun _ => ?_, by omega, by have := h.2.2.2; simp; omega⟩
  rw [← h2, wdL_none hcut, hi, List.take_length]; rfl
theorem WdI.done {l : List UInt8} {i first : Nat} {out : List ByteArray} (h : WdI l i first out) (hi : l.length < i) : out = (wdL l).map mkS := h.2.1 (by have := h.2.2.1; omega)
def kSt : Kd ByteArray := ⟨9, 83, 1, 16, .string ⟨#[]⟩, fun x => [.string x]⟩
theorem kSt_ok : kSt.Ok := ⟨by simp [kSt], fun x => rfl, fun x u hu => by simp [kSt] at hu; rcases hu with rfl; rfl, Tryd.underlying83, by kernel_rfl, rfl, by simp [kSt]⟩
section
variable {K : Kd ByteArray} {w w1 w2 : World} {v : Value} {l : List ByteArray}
structure StI (K : Kd ByteArray) (w w' : World) (v : Value) (l : List ByteArray) : Prop where
  own : ∃ q, GSl K w' v q l ∧ ∀ b, q = some b → w.heap.size ≤ b
  bel : Below w.heap.size w w'
theorem StI.nil (K : Kd ByteArray) (w : World) : StI K w w (.slice none 0 0) [] := ⟨⟨none, GSl.nil _ _, fun b h => by cases h⟩, Below.refl _ _⟩
theorem StI.none {K : Kd ByteArray} {w w' : World} (hb : Below w.heap.size w w') : StI K w w' (.slice none 0 0) [] := ⟨⟨Option.none, GSl.nil _ _, fun b h => by cases h⟩, hb⟩
theorem StI.later (h : StI K w w1 v l) (hb : Below w1.heap.size w1 w2) : StI K w w2 v l := by
  obtain ⟨⟨q, h1, h2⟩, h3⟩ := h
  exact ⟨⟨q, h1.later hb, h2⟩, below_then h3 hb⟩
theorem StI.slice (h : StI K w w1 v l) (hK : K.Ok) : ∃ a n c, v = .slice a n c := by
  obtain ⟨⟨q, h1, h2⟩, h3⟩ := h
  obtain ⟨a, c, e, -⟩ := h1.cell hK
  exact ⟨a, _, c, e⟩
theorem StI.at (h : StI K w w1 v l) (hK : K.Ok) : ∃ a c, v = .slice a l.length c ∧ GAt K w1 v l := by
  obtain ⟨⟨q, h1, h2⟩, h3⟩ := h
  obtain ⟨a, c, e, -⟩ := h1.cell hK
  exact ⟨a, c, e, h1.at hK⟩
theorem StI.more (h : StI K w w1 v l) (hK : K.Ok) (x : ByteArray) (cs : List Value) (hcs : K.f x = cs) (h1 : l.length + 1 ≤ 140737488355328) (h2 : (l.length + 1) * K.bs ≤ 140737488355328) :
    ∃ v2 w2, (Builtin.append_ #[K.T, K.T] K.T #[v, .slice (some ⟨w1.heap.size, 0, Option.none⟩) 1 1]).run Tryd.prog (w1.alloc (.cells cs.toArray K.E)) = .ok v2 w2 ∧ StI K w w2 v2 (l ++ [x]) := by
  obtain ⟨⟨q, hq, hb⟩, bel⟩ := h
  have bn : Below w1.heap.size w1 (w1.alloc (.cells cs.toArray K.E)) := (Below.refl _ _).alloc (Nat.le_refl _) _
  have hx : GAt K (w1.alloc (.cells cs.toArray K.E)) (.slice (some ⟨w1.heap.size, 0, Option.none⟩) 1 1) [x] := by
    refine ⟨_, 1, rfl, by simp, (fun h => by cases h), fun ad h j u hj => ?_⟩
    cases h
    rw [Addr.add_lit, blk_at (Blk.new' w1 K.E cs), Nat.zero_add]
    simpa [Kd.cs, hcs] using hj
  obtain ⟨v2, w2, q2, hr, ho, hg, hor⟩ := (hq.later bn).appendC hK hx (by simpa using h1) (by simpa using h2) K.T
  refine ⟨v2, w2, hr, ⟨⟨q2, ho, fun b hb2 => ?_⟩, ?_⟩⟩
  · rcases hor b hb2 with e | e
    · exact hb b e
    · have := bn.size; have := bel.size; omega
  · exact (below_then bel bn).grown hg (below_then bel bn).size (fun k h => hb k h)
end
end Go.Proofs.YtligmiajlbjecaaDoor

/- text, the document's: words, digest. -/
namespace Go.Proofs.YtligmiajlbjecaaDoor
open Go.RowKit
set_option linter.unusedVariables false
set_option linter.unusedSimpArgs false
set_option maxRecDepth 8000

theorem bs_one18 (x : ByteArray) (w : World) : (Instr.buildSlice 83 1 #[(0, .string x)]).run Tryd.prog w = .ok (.slice (some ⟨w.heap.size, 0, none⟩) 1 1) (w.alloc (.cells #[.string x] 9)) := by kernel_rfl
theorem get_opt (s : ByteArray) (i : Nat) (h : i < s.size) : s.data.toList[i]? = some (s[i]'h) := by
  rw [List.getElem?_eq_getElem (by simpa using h)]; rfl
set_option maxHeartbeats 8000000 in
theorem rWords_any (s : ByteArray) (w : World) (hs : s.size ≤ 4194304) : Calls Tryd.prog 51 #[.string s] w fun e w' => ∃ v, e = .returned v ∧ StI kSt w w' v (wdS s) := by
  have hsz : s.data.toList.length = s.size := by simp
  go_enter Tryd.func51, Tryd.ntmps51
  go_wp2_with fail
  go_loopw [3, 4, 5] (fun ov av iv wr => ∃ (i first : Nat) (out : List ByteArray), av = .int .i64 (first : Int) ∧ iv = .int .i64 (i : Int) ∧ StI kSt w wr ov out ∧ WdI s.data.toList i first out) (fun _ _ iv _ => s.size + 1 - (intOf iv).toNat)
  case atStart => exact ⟨0, 0, [], rfl, rfl, StI.nil _ _, WdI.start _⟩
  case round =>
    obtain ⟨i, first, out, rfl, rfl, hI, hW⟩ := hrel
    obtain ⟨av, cv, rfl, hat⟩ := hI.at kSt_ok
    have hol := hW.2.2.2
    have hil := hW.2.2.1
    by_cases hlt : i ≤ s.size
    · have q1 : (i : Int) ≤ (s.size : Int) := by omega
      have q1n : i ≤ s.size := hlt
      have w5 : IntKind.i64.wrap ((i : Int) + 1) = (i : Int) + 1 := by rw [IntKind.wrap_i64]; omega
      have hfi := (hW.1 (by omega)).1
      by_cases he : i = s.size
      · subst he
        have zz : ((s.size : Int) == (s.size : Int)) = true := by simp
        have e1 : s.extract first s.size = mkS ((s.data.toList.take s.size).drop first) := ext_list s first s.size
        have s1 := fun W => slice_str s first s.size hfi (by omega) W
        rw [e1] at s1
        have hN := hW.last (by omega)
        generalize mkS ((s.data.toList.take s.size).drop first) = x at *
        obtain ⟨v2, w2, hap, J2⟩ := hI.more kSt_ok x [.string x] rfl (by omega) (by simp [kSt]; omega)
        have S1 : Hid (∀ W, _) := s1
        have HB : Hid (∀ W, _) := fun W => bs_one18 x W
        have F : Hid _ := And.intro hN (And.intro J2 hlt)
        clear s1 hN J2 e1 hI hW hat hol hil hfi hsz hs hlt
        go_wp2_with (first | (refine wpList_value rfl (exec_slice18 rfl rfl (S1.out _)) ?_) | (at_builtin; refine wpList_run_app rfl _ _ 83 83 rfl _ _ rfl rfl hap ?_))
        (try go_wp2_with fail)
        go_roundw
        case rel => exact ⟨s.size + 1, s.size + 1, _, by first | rfl | go_num, by first | rfl | go_num, F.out.2.1, F.out.1⟩
        case measure => have := F.out.2.2; simp [intOf] <;> omega
      · have zz : ((i : Int) == (s.size : Int)) = false := by simp; omega
        have hlt2 : i < s.size := by omega
        have hix := ix_str s i hlt2
        have hgo := get_opt s i hlt2
        by_cases hc : s[i]'hlt2 = 44
        · have zk : (((s[i]'hlt2).toNat : Int) == 44) = true := by rw [hc]; rfl
          rw [hc] at hgo
          generalize ((s[i]'hlt2).toNat : Int) = C at *
          have hcd : Hid _ := hc
          clear hc hcd
          have e1 : s.extract first i = mkS ((s.data.toList.take i).drop first) := ext_list s first i
          have s1 := fun W => slice_str s first i hfi (by omega) W
          rw [e1] at s1
          have hN := hW.comma (by omega) hgo
          generalize mkS ((s.data.toList.take i).drop first) = x at *
          obtain ⟨v2, w2, hap, J2⟩ := hI.more kSt_ok x [.string x] rfl (by omega) (by simp [kSt]; omega)
          have S1 : Hid (∀ W, _) := s1
          have HB : Hid (∀ W, _) := fun W => bs_one18 x W
          have F : Hid _ := And.intro hN (And.intro J2 hlt)
          clear s1 hN J2 e1 hI hW hat hol hil hfi hsz hs hlt
          go_wp2_with (first | (refine wpList_value rfl (exec_slice18 rfl rfl (S1.out _)) ?_) | (at_builtin; refine wpList_run_app rfl _ _ 83 83 rfl _ _ rfl rfl hap ?_))
          (try go_wp2_with fail)
          go_roundw
          case rel => exact ⟨i + 1, i + 1, _, by first | rfl | go_num, by first | rfl | go_num, F.out.2.1, F.out.1⟩
          case measure => have := F.out.2.2; simp [intOf] <;> omega
        · have zk : (((s[i]'hlt2).toNat : Int) == 44) = false := by
            have : ¬ (s[i]'hlt2).toNat = 44 := fun e => hc (UInt8.toNat_inj.1 e)
            simp; omega
          have hN := hW.over (by omega) (by rw [hgo]; exact fun e => hc (Option.some.inj e))
          clear hc hgo
          generalize ((s[i]'hlt2).toNat : Int) = C at *
          have F : Hid _ := And.intro hN (And.intro hI hlt)
          clear hN hI hW hat hol hil hfi hsz hs hlt
          go_wp2
          go_roundw
          case rel => exact ⟨i + 1, first, out, rfl, by first | rfl | go_num, F.out.2.1, F.out.1⟩
          case measure => have := F.out.2.2; simp [intOf]; omega
    · have q1 : ¬ ((i : Int) ≤ (s.size : Int)) := by omega
      have F : Hid _ := And.intro hI (hW.done (by omega))
      clear hI hW hat hol hil hsz hs hlt
      go_wp2
      go_ret
      refine ⟨.slice av out.length cv, rfl, ?_⟩
      have e : out = wdS s := F.out.2
      rw [← e]
      exact F.out.1
/-- the first word that is a digest's -/
def dgW : List ByteArray → ByteArray
  | [] => ⟨#[]⟩
  | x :: r => if x.toList == noneS.toList || x.toList == crcS.toList then x else dgW r
theorem cont_one (x : ByteArray) : Lib.containsS [noneS] x = (x.toList == noneS.toList) := by
  rw [beq_toList]
  by_cases h : x = noneS
  · rw [decide_eq_true h, (Lib.containsS_iff _ _).2 (by simp [h])]
  · rw [decide_eq_false h]
    cases hc : Lib.containsS [noneS] x with
    | false => rfl
    | true => have := (Lib.containsS_iff _ _).1 hc; simp at this; exact absurd this h
theorem cont_two (x : ByteArray) : Lib.containsS [noneS, crcS] x = (x.toList == noneS.toList || x.toList == crcS.toList) := by
  rw [beq_toList, beq_toList]
  by_cases h : x = noneS
  · rw [decide_eq_true h, (Lib.containsS_iff _ _).2 (by simp [h])]; rfl
  · by_cases h2 : x = crcS
    · rw [decide_eq_true h2, (Lib.containsS_iff _ _).2 (by simp [h2])]; simp
    · rw [decide_eq_false h, decide_eq_false h2]
      cases hc : Lib.containsS [noneS, crcS] x with
      | false => rfl
      | true => have := (Lib.containsS_iff _ _).1 hc; simp at this; exact absurd this (fun e => e.elim h h2)
/-- a digest's answer -/
theorem fstW_dg : ∀ L : List ByteArray, (dgW L = ⟨#[]⟩ ∧ fstW [noneS, crcS] L = rejS) ∨ ((dgW L).toList == (⟨#[]⟩ : ByteArray).toList) = false ∧ fstW [noneS, crcS] L = dgW L ∧ (dgW L = noneS ∨ dgW L = crcS) := by
  intro L
  induction L with
  | nil => exact .inl ⟨rfl, rfl⟩
  | cons x r ih =>
    unfold dgW fstW
    rw [cont_two]
    by_cases h : (x.toList == noneS.toList || x.toList == crcS.toList) = true
    · rw [if_pos h, if_pos h]
      have hx : x = noneS ∨ x = crcS := by
        rw [beq_toList, beq_toList] at h
        simpa using h
      refine .inr ⟨?_, rfl, hx⟩
      rcases hx with rfl | rfl <;> (rw [beq_toList]; decide)
    · rw [if_neg h, if_neg h]; exact ih
theorem dgW_skip {L : List ByteArray} {k : Nat} (h : k < L.length) (h2 : (L[k].toList == noneS.toList || L[k].toList == crcS.toList) = false) : dgW (L.drop (k + 1)) = dgW (L.drop k) := by
  rw [List.drop_eq_getElem_cons h]
  conv => rhs; unfold dgW
  rw [h2]; rfl
theorem dgW_hit {L : List ByteArray} {k : Nat} (h : k < L.length) (h2 : (L[k].toList == noneS.toList || L[k].toList == crcS.toList) = true) : dgW (L.drop k) = L[k] := by
  rw [List.drop_eq_getElem_cons h]
  unfold dgW
  rw [if_pos h2]
set_option maxHeartbeats 8000000 in
theorem rDigest_any (s : ByteArray) (w : World) (hs : s.size ≤ 4194304) : Calls Tryd.prog 52 #[.string s] w fun e w' => e = .returned (.string (dgW (wdS s))) ∧ Below w.heap.size w w' := by
  have HC : Hid _ := rWords_any s w hs
  have hlen := wdS_len s
  generalize wdS s = L at *
  go_enter Tryd.func52, Tryd.ntmps52
  go_wp2_with fail
  refine (Calls.mono HC.out) ?_
  rintro e w1 ⟨v, rfl, hI⟩
  clear HC
  obtain ⟨av, cv, rfl, hat⟩ := hI.at kSt_ok
  have HA : Hid _ := And.intro hat (And.intro hI.bel hlen)
  clear hat hI hlen
  obtain ⟨nl, hnl⟩ : ∃ nl, nl = L.length := ⟨_, rfl⟩
  rw [← hnl]
  have HNL : Hid _ := hnl
  clear hnl
  go_wp2_with fail
  go_loopw [4] (fun iv wr => ∃ k : Nat, iv = .int .i64 (k : Int) ∧ k ≤ L.length ∧ wr = w1 ∧ dgW (L.drop k) = dgW L) (fun iv _ => L.length - (intOf iv).toNat)
  case atStart => exact ⟨0, rfl, Nat.zero_le _, rfl, rfl⟩
  case round =>
    obtain ⟨k, rfl, hk, rfl, hd⟩ := hrel
    have hnl := HNL.out
    have hlen := HA.out.2.2
    by_cases hlt : k < L.length
    · have q1 : (k : Int) < (nl : Int) := by omega
      have q1n : k < nl := by omega
      have w5 : IntKind.i64.wrap ((k : Int) + 1) = (k : Int) + 1 := by rw [IntKind.wrap_i64]; omega
      have ha := HA.out.1
      rw [← hnl] at ha
      obtain ⟨b, off, rfl, hc⟩ := ha.each kSt_ok k hlt
      have hc0 := hc 0 (by simp [kSt])
      simp only [kSt, List.getElem?_cons_zero, Nat.add_zero, Nat.mul_one] at hc0
      have hsk := dgW_skip hlt
      have hht := dgW_hit hlt
      generalize L[k] = x at *
      obtain ⟨b1, h1⟩ : ∃ b, (x.toList == noneS.toList) = b := ⟨_, rfl⟩
      obtain ⟨b2, h2⟩ : ∃ b, (x.toList == crcS.toList) = b := ⟨_, rfl⟩
      rw [h1, h2] at hsk hht
      have H1 : Hid _ := h1
      have H2 : Hid _ := h2
      have l2 : (x.toList == [67, 82, 67, 51, 50, 67]) = b2 := by rw [← h2, show crcS.toList = [67, 82, 67, 51, 50, 67] by simp [ByteArray.toList_eq]]
      clear h1 h2 hc ha
      cases b1
      · cases b2
        · have F : Hid _ := And.intro ((hsk rfl).trans hd) hlt
          clear hsk hht hd hlen hnl hk hlt
          go_wp2_with (first | (refine wpList_value rfl (exec_eqS rfl rfl rfl H1.out) ?_) | (refine wpList_value rfl (exec_eqS rfl rfl rfl H2.out) ?_))
          go_roundw
          case rel => exact ⟨k + 1, by first | rfl | go_num, F.out.2, by trivial, F.out.1⟩
          case measure => have := F.out.2; simp [intOf]; omega
        · have F : Hid _ := And.intro ((hht rfl).symm.trans hd) HA.out.2.1
          clear hsk hht hd hlen hnl hk hlt
          go_wp2_with (first | (refine wpList_value rfl (exec_eqS rfl rfl rfl H1.out) ?_) | (refine wpList_value rfl (exec_eqS rfl rfl rfl H2.out) ?_))
          go_ret
          exact ⟨by first | (rw [F.out.1]; done) | (rw [F.out.1]; rfl), F.out.2⟩
      · have hht2 : true = true → dgW (L.drop k) = x := fun h => hht (by cases b2 <;> rfl)
        clear hht
        have hht := hht2
        clear hht2 hsk
        have hsk := True.intro
        have F : Hid _ := And.intro ((hht rfl).symm.trans hd) HA.out.2.1
        clear hsk hht hd hlen hnl hk hlt
        go_wp2_with (first | (refine wpList_value rfl (exec_eqS rfl rfl rfl H1.out) ?_) | (refine wpList_value rfl (exec_eqS rfl rfl rfl H2.out) ?_))
        go_ret
        exact ⟨by first | (rw [F.out.1]; done) | (rw [F.out.1]; rfl), F.out.2⟩
    · obtain rfl : k = L.length := by omega
      rw [List.drop_length] at hd
      have F : Hid _ := And.intro hd HA.out.2.1
      have t1 : ¬ ((L.length : Int) < (nl : Int)) := by omega
      have t2 : ¬ (L.length < nl) := by omega
      clear hd hlen hnl hk hlt
      go_wp2
      go_ret
      exact ⟨by rw [← F.out.1]; rfl, F.out.2⟩
end Go.Proofs.YtligmiajlbjecaaDoor

/- text, the document's: number. -/
namespace Go.Proofs.YtligmiajlbjecaaDoor
open Go.RowKit
set_option linter.unusedVariables false
set_option linter.unusedSimpArgs false
set_option maxRecDepth 8000

/-- a key with a number: what holds then, the answer, whether there is one -/
def nmM (j : Nat) (p : Pm18) (n : Int) : Pm18 × ByteArray × Bool :=
  match j with
  | 7 => ({ p with mo := min n 65536 }, ⟨#[]⟩, false)
  | 8 => ({ p with bu := min n p.bu }, digS (min n p.bu), true)
  | 9 => ({ p with fi := min n p.fi }, digS (min n p.fi), true)
  | 12 => (p, ⟨#[49]⟩, true)
  | 13 => (p, ⟨#[49]⟩, true)
  | 15 => (p, digS (max n 2), true)
  | _ => (p, ⟨#[48]⟩, true)
set_option maxHeartbeats 4000000 in
theorem rNm_7 (g : Nat) (p : Pm18) (k : ByteArray) (n : Int) (w : World) (hk : KF k 7) (hB : Blk w g 48 p.c) : Calls Tryd.prog 50 #[.pointer (some ⟨g, 0, none⟩), .string k, .int .i64 n] w fun e w' => e = .returned (.tuple #[.string (nmM 7 p n).2.1, .bool (nmM 7 p n).2.2]) ∧ Turned (fun k => k = g) w w' ∧ Blk w' g 48 (nmM 7 p n).1.c := by
  have HK : Hid _ := hk
  clear hk
  obtain ⟨phs, pds, pmo, pmi, pbu, pfi, pa, pim, pdi, pini, ptgt⟩ := p
  unfold Pm18.c at hB
  simp only at hB
  have S4 := hB.set 2 (.int .i64 (min n 65536))
  simp only [List.set_cons_zero, List.set_cons_succ] at S4
  have T4 := turned_set w g 2 (.int .i64 (min n 65536))
  have z0 := ck_at hB 0
  have z1 := ck_at hB 1
  have z2 := ck_at hB 2
  have z3 := ck_at hB 3
  have z4 := ck_at hB 4
  have z5 := ck_at hB 5
  have z6 := ck_at hB 6
  have z7 := ck_at hB 7
  have z8 := ck_at hB 8
  have z9 := ck_at hB 9
  have z10 := ck_at hB 10
  simp only [List.getElem?_cons_zero, List.getElem?_cons_succ] at z0 z1 z2 z3 z4 z5 z6 z7 z8 z9 z10
  have fz := ck_fz hB 2
  have F : Hid _ := And.intro T4 S4
  clear S4 T4 hB
  go_enter Tryd.func50, Tryd.ntmps50
  go_upto_region 2 with fail
  have E0 : Hid _ := (HK.out 7 _ rfl)
  go_wp2_with (refine wpList_value rfl (exec_eqS rfl rfl rfl (b := true) E0.out) ?_)
  refine (Calls.mono (rLesser_any _ _ _)) ?_
  rintro e _ ⟨rfl, rfl⟩
  go_wp2
  refine bodyPost_ret (v := .tuple #[.string ⟨#[]⟩, .bool false]) (by first | rfl | simp [results, Tryd.results50, go_sem]) rfl ?_
  exact ⟨rfl, F.out.1, F.out.2⟩
set_option maxHeartbeats 4000000 in
theorem rNm_8 (g : Nat) (p : Pm18) (k : ByteArray) (n : Int) (w : World) (hk : KF k 8) (hB : Blk w g 48 p.c) : Calls Tryd.prog 50 #[.pointer (some ⟨g, 0, none⟩), .string k, .int .i64 n] w fun e w' => e = .returned (.tuple #[.string (nmM 8 p n).2.1, .bool (nmM 8 p n).2.2]) ∧ Turned (fun k => k = g) w w' ∧ Blk w' g 48 (nmM 8 p n).1.c := by
  have HK : Hid _ := hk
  clear hk
  obtain ⟨phs, pds, pmo, pmi, pbu, pfi, pa, pim, pdi, pini, ptgt⟩ := p
  unfold Pm18.c at hB
  simp only at hB
  have S4 := hB.set 4 (.int .i64 (min n pbu))
  simp only [List.set_cons_zero, List.set_cons_succ] at S4
  have T4 := turned_set w g 4 (.int .i64 (min n pbu))
  have z0 := ck_at hB 0
  have z1 := ck_at hB 1
  have z2 := ck_at hB 2
  have z3 := ck_at hB 3
  have z4 := ck_at hB 4
  have z5 := ck_at hB 5
  have z6 := ck_at hB 6
  have z7 := ck_at hB 7
  have z8 := ck_at hB 8
  have z9 := ck_at hB 9
  have z10 := ck_at hB 10
  simp only [List.getElem?_cons_zero, List.getElem?_cons_succ] at z0 z1 z2 z3 z4 z5 z6 z7 z8 z9 z10
  have fz := ck_fz hB 4
  obtain ⟨w9, hw9⟩ : ∃ w9, w9 = w.setCell ⟨g, 4, none⟩ (.int .i64 (min n pbu)) := ⟨_, rfl⟩
  rw [← hw9] at S4 T4
  have F : Hid _ := And.intro T4 S4
  clear S4 T4 hB
  go_enter Tryd.func50, Tryd.ntmps50
  go_upto_region 2 with fail
  have E0 : Hid _ := (HK.out 7 _ rfl)
  go_upto_region 5 with (refine wpList_value rfl (exec_eqS rfl rfl rfl (b := false) E0.out) ?_)
  clear E0
  have E1 : Hid _ := (HK.out 8 _ rfl)
  go_wp2_with (refine wpList_value rfl (exec_eqS rfl rfl rfl (b := true) E1.out) ?_)
  refine (Calls.mono (rLesser_any _ _ _)) ?_
  rintro e _ ⟨rfl, rfl⟩
  go_upto_region 7 with fail
  rw [← hw9]
  clear hw9 fz z0 z1 z2 z3 z4 z5 z6 z7 z8 z9 z10
  have y0 := ck_at F.out.2 0
  have y1 := ck_at F.out.2 1
  have y2 := ck_at F.out.2 2
  have y3 := ck_at F.out.2 3
  have y4 := ck_at F.out.2 4
  have y5 := ck_at F.out.2 5
  have y6 := ck_at F.out.2 6
  have y7 := ck_at F.out.2 7
  have y8 := ck_at F.out.2 8
  have y9 := ck_at F.out.2 9
  have y10 := ck_at F.out.2 10
  simp only [List.getElem?_cons_zero, List.getElem?_cons_succ] at y0 y1 y2 y3 y4 y5 y6 y7 y8 y9 y10
  go_wp2_with fail
  refine (Calls.mono (rDigits_any _ _)) ?_
  rintro e w5 ⟨rfl, b5⟩
  have F2 : Hid _ := And.intro (F.out.1.trans ((turned_below b5).mono (fun k h => h.elim))) (F.out.2.laterB b5)
  clear b5 F y0 y1 y2 y3 y4 y5 y6 y7 y8 y9 y10
  go_wp2
  refine bodyPost_ret (v := .tuple #[.string ⟨(dgT (min n pbu)).toArray⟩, .bool true]) (by first | rfl | simp [results, Tryd.results50, go_sem]) rfl ?_
  exact ⟨rfl, F2.out.1, F2.out.2⟩
set_option maxHeartbeats 4000000 in
theorem rNm_9 (g : Nat) (p : Pm18) (k : ByteArray) (n : Int) (w : World) (hk : KF k 9) (hB : Blk w g 48 p.c) : Calls Tryd.prog 50 #[.pointer (some ⟨g, 0, none⟩), .string k, .int .i64 n] w fun e w' => e = .returned (.tuple #[.string (nmM 9 p n).2.1, .bool (nmM 9 p n).2.2]) ∧ Turned (fun k => k = g) w w' ∧ Blk w' g 48 (nmM 9 p n).1.c := by
  have HK : Hid _ := hk
  clear hk
  obtain ⟨phs, pds, pmo, pmi, pbu, pfi, pa, pim, pdi, pini, ptgt⟩ := p
  unfold Pm18.c at hB
  simp only at hB
  have S4 := hB.set 5 (.int .i64 (min n pfi))
  simp only [List.set_cons_zero, List.set_cons_succ] at S4
  have T4 := turned_set w g 5 (.int .i64 (min n pfi))
  have z0 := ck_at hB 0
  have z1 := ck_at hB 1
  have z2 := ck_at hB 2
  have z3 := ck_at hB 3
  have z4 := ck_at hB 4
  have z5 := ck_at hB 5
  have z6 := ck_at hB 6
  have z7 := ck_at hB 7
  have z8 := ck_at hB 8
  have z9 := ck_at hB 9
  have z10 := ck_at hB 10
  simp only [List.getElem?_cons_zero, List.getElem?_cons_succ] at z0 z1 z2 z3 z4 z5 z6 z7 z8 z9 z10
  have fz := ck_fz hB 5
  obtain ⟨w9, hw9⟩ : ∃ w9, w9 = w.setCell ⟨g, 5, none⟩ (.int .i64 (min n pfi)) := ⟨_, rfl⟩
  rw [← hw9] at S4 T4
  have F : Hid _ := And.intro T4 S4
  clear S4 T4 hB
  go_enter Tryd.func50, Tryd.ntmps50
  go_upto_region 2 with fail
  have E0 : Hid _ := (HK.out 7 _ rfl)
  go_upto_region 5 with (refine wpList_value rfl (exec_eqS rfl rfl rfl (b := false) E0.out) ?_)
  clear E0
  have E1 : Hid _ := (HK.out 8 _ rfl)
  go_upto_region 8 with (refine wpList_value rfl (exec_eqS rfl rfl rfl (b := false) E1.out) ?_)
  clear E1
  have E2 : Hid _ := (HK.out 9 _ rfl)
  go_wp2_with (refine wpList_value rfl (exec_eqS rfl rfl rfl (b := true) E2.out) ?_)
  refine (Calls.mono (rLesser_any _ _ _)) ?_
  rintro e _ ⟨rfl, rfl⟩
  go_upto_region 10 with fail
  rw [← hw9]
  clear hw9 fz z0 z1 z2 z3 z4 z5 z6 z7 z8 z9 z10
  have y0 := ck_at F.out.2 0
  have y1 := ck_at F.out.2 1
  have y2 := ck_at F.out.2 2
  have y3 := ck_at F.out.2 3
  have y4 := ck_at F.out.2 4
  have y5 := ck_at F.out.2 5
  have y6 := ck_at F.out.2 6
  have y7 := ck_at F.out.2 7
  have y8 := ck_at F.out.2 8
  have y9 := ck_at F.out.2 9
  have y10 := ck_at F.out.2 10
  simp only [List.getElem?_cons_zero, List.getElem?_cons_succ] at y0 y1 y2 y3 y4 y5 y6 y7 y8 y9 y10
  go_wp2_with fail
  refine (Calls.mono (rDigits_any _ _)) ?_
  rintro e w5 ⟨rfl, b5⟩
  have F2 : Hid _ := And.intro (F.out.1.trans ((turned_below b5).mono (fun k h => h.elim))) (F.out.2.laterB b5)
  clear b5 F y0 y1 y2 y3 y4 y5 y6 y7 y8 y9 y10
  go_wp2
  refine bodyPost_ret (v := .tuple #[.string ⟨(dgT (min n pfi)).toArray⟩, .bool true]) (by first | rfl | simp [results, Tryd.results50, go_sem]) rfl ?_
  exact ⟨rfl, F2.out.1, F2.out.2⟩
set_option maxHeartbeats 4000000 in
theorem rNm_12 (g : Nat) (p : Pm18) (k : ByteArray) (n : Int) (w : World) (hk : KF k 12) (hB : Blk w g 48 p.c) : Calls Tryd.prog 50 #[.pointer (some ⟨g, 0, none⟩), .string k, .int .i64 n] w fun e w' => e = .returned (.tuple #[.string (nmM 12 p n).2.1, .bool (nmM 12 p n).2.2]) ∧ Turned (fun k => k = g) w w' ∧ Blk w' g 48 (nmM 12 p n).1.c := by
  have HK : Hid _ := hk
  clear hk
  have F : Hid _ := And.intro (Turned.refl18 (fun k => k = g) w) hB
  clear hB
  go_enter Tryd.func50, Tryd.ntmps50
  go_upto_region 2 with fail
  have E0 : Hid _ := (HK.out 7 _ rfl)
  go_upto_region 5 with (refine wpList_value rfl (exec_eqS rfl rfl rfl (b := false) E0.out) ?_)
  clear E0
  have E1 : Hid _ := (HK.out 8 _ rfl)
  go_upto_region 8 with (refine wpList_value rfl (exec_eqS rfl rfl rfl (b := false) E1.out) ?_)
  clear E1
  have E2 : Hid _ := (HK.out 9 _ rfl)
  go_upto_region 11 with (refine wpList_value rfl (exec_eqS rfl rfl rfl (b := false) E2.out) ?_)
  clear E2
  have E3 : Hid _ := (HK.out 12 _ rfl)
  go_wp2_with (refine wpList_value rfl (exec_eqS rfl rfl rfl (b := true) E3.out) ?_)
  refine bodyPost_ret (v := .tuple #[.string ⟨#[49]⟩, .bool true]) (by first | rfl | simp [results, Tryd.results50, go_sem]) rfl ?_
  exact ⟨rfl, F.out.1, F.out.2⟩
set_option maxHeartbeats 4000000 in
theorem rNm_13 (g : Nat) (p : Pm18) (k : ByteArray) (n : Int) (w : World) (hk : KF k 13) (hB : Blk w g 48 p.c) : Calls Tryd.prog 50 #[.pointer (some ⟨g, 0, none⟩), .string k, .int .i64 n] w fun e w' => e = .returned (.tuple #[.string (nmM 13 p n).2.1, .bool (nmM 13 p n).2.2]) ∧ Turned (fun k => k = g) w w' ∧ Blk w' g 48 (nmM 13 p n).1.c := by
  have HK : Hid _ := hk
  clear hk
  have F : Hid _ := And.intro (Turned.refl18 (fun k => k = g) w) hB
  clear hB
  go_enter Tryd.func50, Tryd.ntmps50
  go_upto_region 2 with fail
  have E0 : Hid _ := (HK.out 7 _ rfl)
  go_upto_region 5 with (refine wpList_value rfl (exec_eqS rfl rfl rfl (b := false) E0.out) ?_)
  clear E0
  have E1 : Hid _ := (HK.out 8 _ rfl)
  go_upto_region 8 with (refine wpList_value rfl (exec_eqS rfl rfl rfl (b := false) E1.out) ?_)
  clear E1
  have E2 : Hid _ := (HK.out 9 _ rfl)
  go_upto_region 11 with (refine wpList_value rfl (exec_eqS rfl rfl rfl (b := false) E2.out) ?_)
  clear E2
  have E3 : Hid _ := (HK.out 12 _ rfl)
  go_upto_region 12 with (refine wpList_value rfl (exec_eqS rfl rfl rfl (b := false) E3.out) ?_)
  clear E3
  have E4 : Hid _ := (HK.out 13 _ rfl)
  go_wp2_with (refine wpList_value rfl (exec_eqS rfl rfl rfl (b := true) E4.out) ?_)
  refine bodyPost_ret (v := .tuple #[.string ⟨#[49]⟩, .bool true]) (by first | rfl | simp [results, Tryd.results50, go_sem]) rfl ?_
  exact ⟨rfl, F.out.1, F.out.2⟩
set_option maxHeartbeats 4000000 in
theorem rNm_14 (g : Nat) (p : Pm18) (k : ByteArray) (n : Int) (w : World) (hk : KF k 14) (hB : Blk w g 48 p.c) : Calls Tryd.prog 50 #[.pointer (some ⟨g, 0, none⟩), .string k, .int .i64 n] w fun e w' => e = .returned (.tuple #[.string (nmM 14 p n).2.1, .bool (nmM 14 p n).2.2]) ∧ Turned (fun k => k = g) w w' ∧ Blk w' g 48 (nmM 14 p n).1.c := by
  have HK : Hid _ := hk
  clear hk
  have F : Hid _ := And.intro (Turned.refl18 (fun k => k = g) w) hB
  clear hB
  go_enter Tryd.func50, Tryd.ntmps50
  go_upto_region 2 with fail
  have E0 : Hid _ := (HK.out 7 _ rfl)
  go_upto_region 5 with (refine wpList_value rfl (exec_eqS rfl rfl rfl (b := false) E0.out) ?_)
  clear E0
  have E1 : Hid _ := (HK.out 8 _ rfl)
  go_upto_region 8 with (refine wpList_value rfl (exec_eqS rfl rfl rfl (b := false) E1.out) ?_)
  clear E1
  have E2 : Hid _ := (HK.out 9 _ rfl)
  go_upto_region 11 with (refine wpList_value rfl (exec_eqS rfl rfl rfl (b := false) E2.out) ?_)
  clear E2
  have E3 : Hid _ := (HK.out 12 _ rfl)
  go_upto_region 12 with (refine wpList_value rfl (exec_eqS rfl rfl rfl (b := false) E3.out) ?_)
  clear E3
  have E4 : Hid _ := (HK.out 13 _ rfl)
  go_upto_region 14 with (refine wpList_value rfl (exec_eqS rfl rfl rfl (b := false) E4.out) ?_)
  clear E4
  have E5 : Hid _ := (HK.out 15 _ rfl)
  go_wp2_with (refine wpList_value rfl (exec_eqS rfl rfl rfl (b := false) E5.out) ?_)
  refine bodyPost_ret (v := .tuple #[.string ⟨#[48]⟩, .bool true]) (by first | rfl | simp [results, Tryd.results50, go_sem]) rfl ?_
  exact ⟨rfl, F.out.1, F.out.2⟩
set_option maxHeartbeats 4000000 in
theorem rNm_15 (g : Nat) (p : Pm18) (k : ByteArray) (n : Int) (w : World) (hk : KF k 15) (hB : Blk w g 48 p.c) : Calls Tryd.prog 50 #[.pointer (some ⟨g, 0, none⟩), .string k, .int .i64 n] w fun e w' => e = .returned (.tuple #[.string (nmM 15 p n).2.1, .bool (nmM 15 p n).2.2]) ∧ Turned (fun k => k = g) w w' ∧ Blk w' g 48 (nmM 15 p n).1.c := by
  have HK : Hid _ := hk
  clear hk
  have F : Hid _ := hB
  clear hB
  by_cases q2 : n < 2
  · have HG : Hid (nmM 15 p n = (p, digS 2, true)) := (by show (p, digS (max n 2), true) = _; rw [show max n 2 = 2 by omega] : nmM 15 p n = (p, digS 2, true))
    rw [HG.out]
    clear HG
    simp only
    go_enter Tryd.func50, Tryd.ntmps50
    go_upto_region 2 with fail
    have E0 : Hid _ := (HK.out 7 _ rfl)
    go_upto_region 5 with (refine wpList_value rfl (exec_eqS rfl rfl rfl (b := false) E0.out) ?_)
    clear E0
    have E1 : Hid _ := (HK.out 8 _ rfl)
    go_upto_region 8 with (refine wpList_value rfl (exec_eqS rfl rfl rfl (b := false) E1.out) ?_)
    clear E1
    have E2 : Hid _ := (HK.out 9 _ rfl)
    go_upto_region 11 with (refine wpList_value rfl (exec_eqS rfl rfl rfl (b := false) E2.out) ?_)
    clear E2
    have E3 : Hid _ := (HK.out 12 _ rfl)
    go_upto_region 12 with (refine wpList_value rfl (exec_eqS rfl rfl rfl (b := false) E3.out) ?_)
    clear E3
    have E4 : Hid _ := (HK.out 13 _ rfl)
    go_upto_region 14 with (refine wpList_value rfl (exec_eqS rfl rfl rfl (b := false) E4.out) ?_)
    clear E4
    have E5 : Hid _ := (HK.out 15 _ rfl)
    go_wp2_with (refine wpList_value rfl (exec_eqS rfl rfl rfl (b := true) E5.out) ?_)
    refine (Calls.mono (rDigits_any _ _)) ?_
    rintro e w5 ⟨rfl, b5⟩
    have F2 : Hid _ := And.intro ((turned_below b5).mono (fun k h => h.elim) : Turned (fun k => k = g) w w5) (Blk.laterB F.out b5)
    clear b5 F
    go_wp2
    refine bodyPost_ret (v := .tuple #[.string ⟨(dgT 2).toArray⟩, .bool true]) (by first | rfl | simp [results, Tryd.results50, go_sem]) rfl ?_
    exact ⟨rfl, F2.out.1, F2.out.2⟩
  · have HG : Hid (nmM 15 p n = (p, digS n, true)) := (by show (p, digS (max n 2), true) = _; rw [show max n 2 = n by omega] : nmM 15 p n = (p, digS n, true))
    rw [HG.out]
    clear HG
    simp only
    go_enter Tryd.func50, Tryd.ntmps50
    go_upto_region 2 with fail
    have E0 : Hid _ := (HK.out 7 _ rfl)
    go_upto_region 5 with (refine wpList_value rfl (exec_eqS rfl rfl rfl (b := false) E0.out) ?_)
    clear E0
    have E1 : Hid _ := (HK.out 8 _ rfl)
    go_upto_region 8 with (refine wpList_value rfl (exec_eqS rfl rfl rfl (b := false) E1.out) ?_)
    clear E1
    have E2 : Hid _ := (HK.out 9 _ rfl)
    go_upto_region 11 with (refine wpList_value rfl (exec_eqS rfl rfl rfl (b := false) E2.out) ?_)
    clear E2
    have E3 : Hid _ := (HK.out 12 _ rfl)
    go_upto_region 12 with (refine wpList_value rfl (exec_eqS rfl rfl rfl (b := false) E3.out) ?_)
    clear E3
    have E4 : Hid _ := (HK.out 13 _ rfl)
    go_upto_region 14 with (refine wpList_value rfl (exec_eqS rfl rfl rfl (b := false) E4.out) ?_)
    clear E4
    have E5 : Hid _ := (HK.out 15 _ rfl)
    go_wp2_with (refine wpList_value rfl (exec_eqS rfl rfl rfl (b := true) E5.out) ?_)
    refine (Calls.mono (rDigits_any _ _)) ?_
    rintro e w5 ⟨rfl, b5⟩
    have F2 : Hid _ := And.intro ((turned_below b5).mono (fun k h => h.elim) : Turned (fun k => k = g) w w5) (Blk.laterB F.out b5)
    clear b5 F
    go_wp2
    refine bodyPost_ret (v := .tuple #[.string ⟨(dgT n).toArray⟩, .bool true]) (by first | rfl | simp [results, Tryd.results50, go_sem]) rfl ?_
    exact ⟨rfl, F2.out.1, F2.out.2⟩
set_option maxHeartbeats 4000000 in
theorem rNm_16 (g : Nat) (p : Pm18) (k : ByteArray) (n : Int) (w : World) (hk : KF k 16) (hB : Blk w g 48 p.c) : Calls Tryd.prog 50 #[.pointer (some ⟨g, 0, none⟩), .string k, .int .i64 n] w fun e w' => e = .returned (.tuple #[.string (nmM 16 p n).2.1, .bool (nmM 16 p n).2.2]) ∧ Turned (fun k => k = g) w w' ∧ Blk w' g 48 (nmM 16 p n).1.c := by
  have HK : Hid _ := hk
  clear hk
  have F : Hid _ := And.intro (Turned.refl18 (fun k => k = g) w) hB
  clear hB
  go_enter Tryd.func50, Tryd.ntmps50
  go_upto_region 2 with fail
  have E0 : Hid _ := (HK.out 7 _ rfl)
  go_upto_region 5 with (refine wpList_value rfl (exec_eqS rfl rfl rfl (b := false) E0.out) ?_)
  clear E0
  have E1 : Hid _ := (HK.out 8 _ rfl)
  go_upto_region 8 with (refine wpList_value rfl (exec_eqS rfl rfl rfl (b := false) E1.out) ?_)
  clear E1
  have E2 : Hid _ := (HK.out 9 _ rfl)
  go_upto_region 11 with (refine wpList_value rfl (exec_eqS rfl rfl rfl (b := false) E2.out) ?_)
  clear E2
  have E3 : Hid _ := (HK.out 12 _ rfl)
  go_upto_region 12 with (refine wpList_value rfl (exec_eqS rfl rfl rfl (b := false) E3.out) ?_)
  clear E3
  have E4 : Hid _ := (HK.out 13 _ rfl)
  go_upto_region 14 with (refine wpList_value rfl (exec_eqS rfl rfl rfl (b := false) E4.out) ?_)
  clear E4
  have E5 : Hid _ := (HK.out 15 _ rfl)
  go_wp2_with (refine wpList_value rfl (exec_eqS rfl rfl rfl (b := false) E5.out) ?_)
  refine bodyPost_ret (v := .tuple #[.string ⟨#[48]⟩, .bool true]) (by first | rfl | simp [results, Tryd.results50, go_sem]) rfl ?_
  exact ⟨rfl, F.out.1, F.out.2⟩
theorem rNum_any (j : Nat) (hj : j = 7 ∨ j = 8 ∨ j = 9 ∨ j = 12 ∨ j = 13 ∨ j = 14 ∨ j = 15 ∨ j = 16) (g : Nat) (p : Pm18) (k : ByteArray) (n : Int) (w : World) (hk : KF k j) (hB : Blk w g 48 p.c) : Calls Tryd.prog 50 #[.pointer (some ⟨g, 0, none⟩), .string k, .int .i64 n] w fun e w' => e = .returned (.tuple #[.string (nmM j p n).2.1, .bool (nmM j p n).2.2]) ∧ Turned (fun k => k = g) w w' ∧ Blk w' g 48 (nmM j p n).1.c := by
  rcases hj with rfl | rfl | rfl | rfl | rfl | rfl | rfl | rfl
  · exact rNm_7 g p k n w hk hB
  · exact rNm_8 g p k n w hk hB
  · exact rNm_9 g p k n w hk hB
  · exact rNm_12 g p k n w hk hB
  · exact rNm_13 g p k n w hk hB
  · exact rNm_14 g p k n w hk hB
  · exact rNm_15 g p k n w hk hB
  · exact rNm_16 g p k n w hk hB
end Go.Proofs.YtligmiajlbjecaaDoor
