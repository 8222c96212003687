/- An answer put amid others, where there is no room; wherever it is put. -/
import Derived.Test.YtkcbbaanlkpeiaaXDd19
namespace Go.Proofs.Ytkcbbaanlkpeiaa
open Go.RowKit
set_option linter.unusedVariables false
set_option linter.unusedSimpArgs false
set_option maxRecDepth 4000

theorem splice_grow (R A C : List Value) (n i : Nat) (hA : A.length = n * 3) (hR : R.take (i * 3) = A.take (i * 3)) (hl : (n + 1) * 3 ≤ R.length) (hi : i ≤ n) (hC : C.length = 3) :
    (splice (splice R (i * 3) C) ((i + 1) * 3) (A.drop (i * 3))).take ((n + 1) * 3) = A.take (i * 3) ++ C ++ A.drop (i * 3) := by
  have lD : (A.drop (i * 3)).length = (n - i) * 3 := by rw [List.length_drop, hA]; omega
  have lT : (A.take (i * 3)).length = i * 3 := by rw [List.length_take, hA]; omega
  generalize A.drop (i * 3) = D at *
  have e0 : splice R (i * 3) C = (A.take (i * 3) ++ C) ++ R.drop (i * 3 + C.length) := by
    unfold splice; rw [hR]; simp
  have l0 : (A.take (i * 3) ++ C).length = (i + 1) * 3 := by rw [List.length_append, lT, hC]; omega
  have e1 : (splice R (i * 3) C).take ((i + 1) * 3) = A.take (i * 3) ++ C := by rw [e0]; exact List.take_left' l0
  have e2 : splice (splice R (i * 3) C) ((i + 1) * 3) D = ((A.take (i * 3) ++ C) ++ D) ++ (splice R (i * 3) C).drop ((i + 1) * 3 + D.length) := by
    rw [show splice (splice R (i * 3) C) ((i + 1) * 3) D = (splice R (i * 3) C).take ((i + 1) * 3) ++ (D ++ (splice R (i * 3) C).drop ((i + 1) * 3 + D.length)) from rfl, e1]
    simp
  rw [e2]
  exact List.take_left' (by rw [List.length_append, l0, lD]; omega)
theorem zeros_len (k : Nat) : (Builtin.zeroCells (Value.agg #[.int .i64 0, .int .i64 0, .string (ByteArray.mk #[])]).cells k).size = k * 3 := by
  simp [Builtin.zeroCells, Value.cells]
theorem run_app_grow (w : World) (g n cap i : Nat) (l : List An) (cur : List Value) (hB : Blk w g 90 cur) (hcur : cur.length = cap * 3) (hn : l.length = n) (ht : cur.take (n * 3) = acells l) (hi : i < n) (hnc : n ≤ cap) (hroom : cap < n + 1) (hnl : n ≤ 1000) :
    ∃ (G : Nat) (W1 : World) (R : List Value), (∀ ty, (Builtin.append_ #[55, 3] ty #[.slice (some ⟨g, 0, none⟩) i cap, .int .i64 ((n : Int) + 1 - (i : Int))]).run Try.prog w = .ok (.slice (some ⟨w.heap.size, 0, none⟩) (n + 1) G) W1) ∧ Blk W1 w.heap.size 90 R ∧ R.length = G * 3 ∧ R.take (i * 3) = (acells l).take (i * 3) ∧ n + 1 ≤ G ∧ G ≤ maxLen ∧ Below w.heap.size w W1 := by
  obtain ⟨i0, hi0, hz0, hz1, hz2⟩ := info_parts info_answer
  have lA : (acells l).length = n * 3 := by rw [acells_length, hn]
  have lT : ((acells l).take (i * 3)).length = i * 3 := by rw [List.length_take, lA]; omega
  have hold : (Builtin.firstCells i0.size i (.slice (some ⟨g, 0, none⟩) i cap)).run Try.prog w.drew = .ok ((acells l).take (i * 3)).toArray w.drew := by
    rw [hz1]
    exact run_firstCells_some w.drew 3 i ⟨g, 0, none⟩ i cap ((acells l).take (i * 3)) lT (fun j v hj => by
      rw [Addr.add_lit, Nat.zero_add]
      rw [List.getElem?_take] at hj
      split at hj
      · have hBd : Blk w.drew g 90 cur := hB
        rw [blk_at hBd, ← hj, ← ht, List.getElem?_take, if_pos (by omega)]
      · cases hj)
  have hkk : (n : Int) + 1 - (i : Int) = ((n + 1 - i : Nat) : Int) := by omega
  have hik : i + (n + 1 - i) = n + 1 := by omega
  have hgn := grownCap_ge w (n + 1) cap 90
  have hgm := grownCap_le_maxLen w (n + 1) cap 90 (by unfold maxLen; omega)
  refine ⟨grownCap w (n + 1) cap 90, w.drew.alloc (.cells (((acells l).take (i * 3)).toArray ++ Builtin.zeroCells (Value.agg #[.int .i64 0, .int .i64 0, .string (ByteArray.mk #[])]).cells (n + 1 - i) ++ Builtin.zeroCells (Value.agg #[.int .i64 0, .int .i64 0, .string (ByteArray.mk #[])]).cells (grownCap w (n + 1) cap 90 - (n + 1))) 90),
    (acells l).take (i * 3) ++ (Builtin.zeroCells (Value.agg #[.int .i64 0, .int .i64 0, .string (ByteArray.mk #[])]).cells (n + 1 - i)).toList ++ (Builtin.zeroCells (Value.agg #[.int .i64 0, .int .i64 0, .string (ByteArray.mk #[])]).cells (grownCap w (n + 1) cap 90 - (n + 1))).toList, fun ty => ?_, ?_, ?_, ?_, hgn, hgm, ?_⟩
  · have h := Lib.run_append_grow_zeros (P := Try.prog) w 55 3 ty 90 i0 _ .i64 .i64 Try.underlying55 Try.underlying3 hi0 hz0 (some ⟨g, 0, none⟩) i cap ((acells l).take (i * 3)) hold (n + 1 - i) (by omega) (by omega) (by omega) (by omega) (by rw [hz2]; omega) (by rw [hz2, hik]; exact growslice_fits hroom (by omega))
    rw [hik] at h
    rw [hkk]
    exact h
  · have := Blk.new' w.drew 90 ((acells l).take (i * 3) ++ (Builtin.zeroCells (Value.agg #[.int .i64 0, .int .i64 0, .string (ByteArray.mk #[])]).cells (n + 1 - i)).toList ++ (Builtin.zeroCells (Value.agg #[.int .i64 0, .int .i64 0, .string (ByteArray.mk #[])]).cells (grownCap w (n + 1) cap 90 - (n + 1))).toList)
    rw [show ∀ (x : List Value) (y z : Array Value), (x ++ y.toList ++ z.toList).toArray = x.toArray ++ y ++ z from fun x y z => Array.ext' (by simp)] at this
    exact this
  · rw [List.length_append, List.length_append, lT, Array.length_toList, Array.length_toList, zeros_len, zeros_len]; omega
  · rw [List.append_assoc]; exact List.take_left' lT
  · exact ((Below.refl w.heap.size w).drew).alloc (Nat.le_refl _) _
/-- there is no room -/
theorem insert_grow (g n cap i k : Nat) (cur : List Value) (l : List An) (a b : Int) (s : ByteArray) (w : World) (hB : Blk w g 90 cur) (hcur : cur.length = cap * 3) (hn : l.length = n) (ht : cur.take (n * 3) = acells l) (hi : i < n) (hnc : n ≤ cap) (hroom : cap < n + 1) (hnl : n ≤ 1000)
    (hk : Blk w k 90 [.int .i64 a, .int .i64 b, .string s]) :
    Calls Try.prog 76 #[.slice (some ⟨g, 0, none⟩) n cap, .int .i64 i, .slice (some ⟨k, 0, none⟩) 1 1] w fun e w' => ∃ G, e = .returned (.slice (some ⟨w.heap.size, 0, none⟩) (n + 1) G) ∧ n + 1 ≤ G ∧ G ≤ maxLen ∧ (∃ cur', Blk w' w.heap.size 90 cur' ∧ cur'.length = G * 3 ∧ cur'.take ((n + 1) * 3) = acells (l.take i ++ (a, b, s) :: l.drop i)) ∧ Below w.heap.size w w' := by
  obtain ⟨G, W1, R, hrz, B1, lR, tR, hG1, hG2, b1⟩ := run_app_grow w g n cap i l cur hB hcur hn ht hi hnc hroom hnl
  have lA : (acells l).length = n * 3 := by rw [acells_length, hn]
  have lD : ((acells l).drop (i * 3)).length = (n - i) * 3 := by rw [List.length_drop, lA]; omega
  have hk1 := hk.laterB b1
  have hg1 := hB.laterB b1
  have hgl := hB.lt
  have hG3 : G ≤ 9223372036854775807 := by unfold maxLen at hG2; omega
  have c2 : ∃ w2, (Builtin.copy_ #[55, 55] 3 #[.slice (some ⟨w.heap.size, i * 3, none⟩) (n + 1 - i) (G - i), .slice (some ⟨k, 0, none⟩) 1 1]).run Try.prog W1 = .ok (goInt 1) w2 ∧ Blk w2 w.heap.size 90 (splice R (i * 3) [.int .i64 a, .int .i64 b, .string s]) ∧ W1.grownBy w2 (some w.heap.size) := by
    have hm : Nat.min 1 (n + 1 - i) = 1 := by simp only [Nat.min_def]; split <;> omega
    obtain ⟨w2, h1, h2, h3⟩ := run_copy_ans W1 3 w.heap.size (i * 3) (n + 1 - i) (G - i) ⟨k, 0, none⟩ 1 1 _ [.int .i64 a, .int .i64 b, .string s] B1 (by rw [hm]; rfl) (fun j v hj => by rw [Addr.add_lit, Nat.zero_add, blk_at hk1, hj]) (by rw [lR]; simp; omega) (fun u hu => by
      simp only [List.mem_cons, List.not_mem_nil, or_false] at hu
      rcases hu with rfl | rfl | rfl <;> rfl)
    rw [hm] at h1
    exact ⟨w2, h1, h2, h3⟩
  obtain ⟨w2, h2, B2, g2⟩ := c2
  have hg2 := hg1.grown g2 (fun e => by injection e with e; omega)
  have lS : (splice R (i * 3) [.int .i64 a, .int .i64 b, .string s]).length = R.length := length_splice _ _ _ (by rw [lR]; simp; omega)
  have c3 : ∃ w3, (Builtin.copy_ #[55, 55] 3 #[.slice (some ⟨w.heap.size, (i + 1) * 3, none⟩) (n + 1 - (i + 1)) (G - (i + 1)), .slice (some ⟨g, i * 3, none⟩) (n - i) (cap - i)]).run Try.prog w2.drew = .ok (goInt ((n - i : Nat) : Int)) w3 ∧ Blk w3 w.heap.size 90 (splice (splice R (i * 3) [.int .i64 a, .int .i64 b, .string s]) ((i + 1) * 3) ((acells l).drop (i * 3))) ∧ w2.grownBy w3 (some w.heap.size) := by
    have hm : Nat.min (n - i) (n + 1 - (i + 1)) = n - i := by simp only [Nat.min_def]; split <;> omega
    obtain ⟨w3, h1, h2, h3⟩ := run_copy_ans w2.drew 3 w.heap.size ((i + 1) * 3) (n + 1 - (i + 1)) (G - (i + 1)) ⟨g, i * 3, none⟩ (n - i) (cap - i) _ ((acells l).drop (i * 3)) B2 (by rw [hm, lD]) (fun j v hj => by
      have hlt : j < ((acells l).drop (i * 3)).length := by
        rcases Nat.lt_or_ge j ((acells l).drop (i * 3)).length with q | q
        · exact q
        · rw [List.getElem?_eq_none q] at hj; cases hj
      rw [Addr.add_lit]
      have hBd : Blk w2.drew g 90 cur := hg2
      rw [blk_at hBd, ← hj, List.getElem?_drop, ← ht, List.getElem?_take, if_pos (by omega)]) (by rw [lD, lS, lR]; omega) (fun v hv => acells_one l v (List.mem_of_mem_drop hv))
    rw [hm] at h1
    exact ⟨w3, h1, h2, ⟨h3.os, h3.tape, h3.output, h3.size, h3.block⟩⟩
  obtain ⟨w3, h3, B3, g3⟩ := c3
  have b3 : Below w.heap.size w w3 := (b1.grown (row := some w.heap.size) g2 b1.size (fun k hk => by injection hk with hk; omega)).grown (row := some w.heap.size) g3 (by have := b1.size; have := g2.size; omega) (fun k hk => by injection hk with hk; omega)
  have HF : Hid _ := And.intro (⟨_, B3, by rw [length_splice _ _ _ (by rw [lD, lS, lR]; omega), lS, lR], by rw [splice_grow R _ _ n i lA tR (by omega) (by omega) rfl, acells_mid]⟩ : ∃ cur', Blk w3 w.heap.size 90 cur' ∧ cur'.length = G * 3 ∧ cur'.take ((n + 1) * 3) = acells (l.take i ++ (a, b, s) :: l.drop i)) b3
  have q1 : ¬ ((i : Int) = (n : Int)) := by omega
  have q3 : (i : Int) ≤ (n : Int) := by omega
  have q4 : ¬ (cap = i) := by omega
  have q4' : ¬ (G = i) := by omega
  have q5 : ¬ (G = i + 1) := by omega
  have q6 : (n : Int) ≤ 1000 := by omega
  have q8 : (i : Int) ≤ (n : Int) + 1 := by omega
  have q9 : (n : Int) + 1 > (cap : Int) := by omega
  have q10 : (i : Int) ≤ (cap : Int) := by omega
  have hw1 : IntKind.i64.wrap ((i : Int) + 1) = (i : Int) + 1 := by rw [IntKind.wrap_i64]; omega
  have hb1 : (0 : Int) ≤ (i : Int) + 1 := by omega
  have htn : ((i : Int) + 1).toNat = i + 1 := by omega
  have h3' := h3
  rw [Nat.add_sub_add_right] at h3'
  have H3 : Hid _ := And.intro h3 h3'
  have HZ : Hid _ := hrz
  have HG : Hid _ := And.intro hG1 hG2
  clear hrz h3 h3' hB hcur ht hk hk1 hg1 hg2 lA lD B1 b1 lS B2 g2 B3 g3 b3 tR lR hn hG2 hgl hnc
  go_enter Try.func76, Try.ntmps76
  go_wp2_with (at_builtin; refine Lib.wpList_append_run _ rfl _ _ _ _ rfl _ _ rfl rfl _ _ (HZ.out _) ?_)
  go_region_law (refine step_copy12 rfl _ _ 55 55 rfl _ _ (by simp [Act.eval, Act.put]; rfl) (by simp [Act.eval, Act.put]; rfl) (by first | exact H3.out.1 | exact H3.out.2) ?_)
  all_goals
    go_wp2
    go_ret
    exact ⟨G, rfl, HG.out.1, HG.out.2, HF.out.1, HF.out.2⟩
/-- wherever it is put -/
theorem insC_any {w : World} {v : Value} {l : List An} {i : Nat} (ho : AOwn w v l) (hl : l.length ≤ 1000) (hi : i ≤ l.length) (a b : Int) (s : ByteArray) : InsC w v i a b s (l.take i ++ (a, b, s) :: l.drop i) := by
  rcases Nat.lt_or_ge i l.length with hlt | hge
  · intro W k hW hK hk
    have ho' := ho.later hW
    obtain ⟨h1, ⟨h2, h3⟩ | ⟨g, cap, cur, rfl, hb, hh, hc, hm, hs, ht⟩⟩ := ho'
    · omega
    have hB : Blk W g 90 cur.toList := by unfold Blk; simpa using hh
    have lnew : (l.take i ++ (a, b, s) :: l.drop i).length = l.length + 1 := by simp; omega
    have hgl : g < w.heap.size := ho.lt g rfl
    by_cases hr : l.length + 1 ≤ cap
    · refine (insert_shift g l.length cap i k cur.toList l a b s W hB (by simpa using hs) rfl ht hlt hr hm (by omega) hK (by omega)).mono ?_
      rintro e w' ⟨rfl, ⟨cur', B', l', t'⟩, g'⟩
      refine ⟨_, rfl, ?_, g', fun j hj => .inl hj⟩
      unfold AOwn
      rw [lnew]
      exact ⟨by rw [acells_length, lnew], .inr ⟨g, cap, cur'.toArray, rfl, Nat.zero_le _, B', hr, hm, by simpa using l', by simpa using t'⟩⟩
    · refine (insert_grow g l.length cap i k cur.toList l a b s W hB (by simpa using hs) rfl ht hlt hc (by omega) (by omega) hK).mono ?_
      rintro e w' ⟨G, rfl, hG1, hG2, ⟨cur', B', l', t'⟩, g'⟩
      refine ⟨_, rfl, ?_, ⟨g'.os, g'.tape, g'.output, g'.size, fun j hj _ => g'.block j hj⟩, fun j hj => .inr (by have : W.heap.size = j := (by simpa [Value.ownBlock] using hj); omega)⟩
      unfold AOwn
      rw [lnew]
      exact ⟨by rw [acells_length, lnew], .inr ⟨W.heap.size, G, cur'.toArray, rfl, Nat.zero_le _, B', hG1, hG2, by simpa using l', by simpa using t'⟩⟩
  · obtain rfl : i = l.length := by omega
    have := insC_end ho hl a b s
    simpa using this
end Go.Proofs.Ytkcbbaanlkpeiaa

