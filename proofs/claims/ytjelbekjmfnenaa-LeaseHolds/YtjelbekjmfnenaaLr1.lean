/- The document's lease. -/
import Derived.Test.YtjelbekjmfnenaaNs1
import Derived.BigQuiet
namespace Go.Proofs.Ytjelbekjmfnenaa
open Go.RowKit Go.Shelf
set_option linter.unusedVariables false
set_option linter.unusedSimpArgs false
set_option maxRecDepth 4000

/-- the document's lease at block g: its numbers, rounds and times -/
def rlOb (g : Nat) (q p : Option Nat) (n r : Int) (l : List (Int × Int)) : Ob :=
  ⟨g :: (q.toList ++ p.toList), [], fun w => (q ≠ some g ∧ p ≠ some g ∧ ∀ b, q = some b → p ≠ some b) ∧ ∃ v u, Blk w g 35 [.int .i64 n, .int .i64 r, v, u] ∧ NSl w v q (l.map (·.1)) ∧ NSl w u p (l.map (·.2))⟩
section
variable {g : Nat} {q p : Option Nat} {n r : Int} {l : List (Int × Int)} {w : World}
theorem rl_stable (g : Nat) (q p : Option Nat) (n r : Int) (l : List (Int × Int)) (w1 w2 : World) (hb : ∀ k, k ∈ (rlOb g q p n r l).W ∨ k ∈ (rlOb g q p n r l).V → w2.heap[k]? = w1.heap[k]?) (h : (rlOb g q p n r l).P w1) : (rlOb g q p n r l).P w2 := by
  obtain ⟨hn, v, u, h1, h2, h3⟩ := h
  refine ⟨hn, v, u, ?_, h2.same (fun k hk => hb k (.inl (by simp [rlOb, hk]))), h3.same (fun k hk => hb k (.inl (by simp [rlOb, hk])))⟩
  unfold Blk at *; rw [hb g (.inl (by simp [rlOb]))]; exact h1
theorem rl_ok (h : (rlOb g q p n r l).P w) : (rlOb g q p n r l).Ok w := by
  obtain ⟨hn, v, u, h1, h2, h3⟩ := id h
  refine ⟨h, fun k hk => ?_, (fun k _ hv => by cases hv), rl_stable g q p n r l⟩
  rcases hk with hk | hk
  · simp only [rlOb, List.mem_cons, List.mem_append, Option.mem_toList] at hk
    rcases hk with rfl | hk | hk
    · exact h1.lt
    · exact h2.lt k hk
    · exact h3.lt k hk
  · cases hk
end
theorem lastOf_snoc (l : List (Int × Int)) (x : Int × Int) (r : Int) : lastOf (l ++ [x]) r = if x.1 ≤ r then x else lastOf l r := by
  unfold lastOf
  rw [List.reverse_append]
  by_cases h : x.1 ≤ r
  · simp [h]
  · simp [h]
/-- where the last round stands that is not above one -/
structure PlaceIs (l : List (Int × Int)) (r kk : Int) : Prop where
  is : (kk = -1 ∧ ∀ x ∈ l, ¬ x.1 ≤ r) ∨ ∃ k y, k < l.length ∧ kk = (k : Int) ∧ l[k]? = some y ∧ y.1 ≤ r ∧ lastOf l r = y
theorem lastOf_no {l : List (Int × Int)} {r : Int} (h : ∀ x ∈ l, ¬ x.1 ≤ r) : lastOf l r = (0, 0) := by
  unfold lastOf
  rw [List.find?_eq_none.2 (fun x hx => by have := h x (by simpa using hx); simpa using this)]
  rfl
theorem rlNew_no (a b : Int) (w : World) (h : ¬ (1 ≤ a ∧ a ≤ 1000 ∧ 1 ≤ b ∧ b ≤ 1000)) : Calls Try.prog 9 #[.int .i64 a, .int .i64 b] w fun e w' => e = .returned (.tuple #[.pointer none, .int .i64 1]) ∧ w = w' := by
  have hc : a < 1 ∨ (¬ a < 1 ∧ a > 1000) ∨ (¬ a < 1 ∧ ¬ a > 1000 ∧ b < 1) ∨ (¬ a < 1 ∧ ¬ a > 1000 ∧ ¬ b < 1 ∧ b > 1000) := by omega
  clear h
  rcases hc with h1 | ⟨h1, h2⟩ | ⟨h1, h2, h3⟩ | ⟨h1, h2, h3, h4⟩
  all_goals
    go_enter Try.func9, Try.ntmps9
    go_wp2
    go_ret2
    exact ⟨rfl, rfl⟩
theorem rlNew_yes (a b : Int) (w : World) (h : 1 ≤ a ∧ a ≤ 1000 ∧ 1 ≤ b ∧ b ≤ 1000) : Calls Try.prog 9 #[.int .i64 a, .int .i64 b] w fun e w' => ∃ g, e = .returned (.tuple #[.pointer (some ⟨g, 0, none⟩), .int .i64 0]) ∧ w.heap.size ≤ g ∧ (rlOb g none none a b []).Ok w' ∧ Below w.heap.size w w' := by
  have N := Blk.new' w 35 [.int .i64 a, .int .i64 b, .slice none 0 0, .slice none 0 0]
  have bn : Below w.heap.size w (w.alloc (.cells #[.int .i64 a, .int .i64 b, .slice none 0 0, .slice none 0 0] 35)) := (Below.refl _ _).alloc (Nat.le_refl _) _
  have F : Hid _ := And.intro (rl_ok (g := w.heap.size) (q := none) (p := none) (n := a) (r := b) (l := []) ⟨by simp, _, _, N, NSl.nil _, NSl.nil _⟩) bn
  clear N bn
  have hc : ¬ a < 1 ∧ ¬ a > 1000 ∧ ¬ b < 1 ∧ ¬ b > 1000 := by omega
  obtain ⟨h1, h2, h3, h4⟩ := hc
  go_enter Try.func9, Try.ntmps9
  go_wp2
  go_ret2
  exact ⟨_, rfl, Nat.le_refl _, F.out.1, F.out.2⟩
set_option maxHeartbeats 1000000 in
theorem rlplace_any (g : Nat) (q p : Option Nat) (n r : Int) (l : List (Int × Int)) (x : Int) (w : World) (h : (rlOb g q p n r l).Ok w) (hl : l.length ≤ 1000) :
    Calls Try.prog 40 #[.pointer (some ⟨g, 0, none⟩), .int .i64 x] w fun e w' => (∃ kk, e = .returned (.int .i64 kk) ∧ PlaceIs l x kk) ∧ w = w' := by
  obtain ⟨-, v, u, hG, h2, -⟩ := h.holds
  have c2 := blk_at hG 2
  simp at c2
  obtain ⟨va, vc, hv, hvc, hvm, hcs⟩ := h2.open
  rw [List.length_map] at hv hvc
  simp only [List.length_map, List.getElem_map] at hcs
  rw [hv] at c2
  have HC : Hid _ := hcs
  clear hcs h2 hG h hv
  go_enter Try.func40, Try.ntmps40
  go_wp2_with fail
  go_loopw [5, 6] (fun kv iv wr => ∃ (i : Nat) (kk : Int), iv = .int .i64 i ∧ kv = .int .i64 kk ∧ i ≤ l.length ∧ PlaceIs (l.take i) x kk ∧ w = wr) (fun _ iv _ => l.length - (intOf iv).toNat)
  case atStart => exact ⟨0, -1, rfl, rfl, by omega, ⟨.inl ⟨rfl, by simp⟩⟩, rfl⟩
  case round =>
    obtain ⟨i, kk, rfl, rfl, hi, hP, rfl⟩ := hrel
    by_cases hlt : i < l.length
    · obtain ⟨b, off, rfl, -, k1⟩ := HC.out i hlt
      have q1 : (i : Int) < l.length := by omega
      have hsn : l.take (i + 1) = l.take i ++ [l[i]] := List.take_succ_eq_append_getElem hlt
      have HP : Hid _ := And.intro hP hsn
      clear hP hsn
      by_cases hx : l[i].1 ≤ x
      · have R : Hid (PlaceIs (l.take (i + 1)) x i) := by
          refine ⟨.inr ⟨i, l[i], by simp; omega, rfl, ?_, hx, ?_⟩⟩
          · rw [List.getElem?_take, if_pos (by omega), List.getElem?_eq_getElem hlt]
          · rw [HP.out.2, lastOf_snoc, if_pos hx]
        generalize l[i].1 = y at *
        clear HP
        go_wp2
        go_roundw
        case rel => exact ⟨i + 1, i, by go_num, rfl, by omega, R.out, by first | rfl | trivial⟩
        case measure => simp [intOf]; omega
      · have R : Hid (PlaceIs (l.take (i + 1)) x kk) := by
          rcases HP.out.1.is with ⟨e, hno⟩ | ⟨k, y, hk, e, hy, h1, h2⟩
          · refine ⟨.inl ⟨e, fun z hz => ?_⟩⟩
            rw [HP.out.2] at hz
            rcases List.mem_append.1 hz with hz | hz
            · exact hno z hz
            · rw [List.mem_singleton.1 hz]; exact hx
          · simp at hk
            rw [List.getElem?_take, if_pos (by omega)] at hy
            refine ⟨.inr ⟨k, y, by simp; omega, e, ?_, h1, ?_⟩⟩
            · rw [List.getElem?_take, if_pos (by omega)]; exact hy
            · rw [HP.out.2, lastOf_snoc, if_neg hx, h2]
        generalize l[i].1 = y at *
        clear HP
        go_wp2
        go_roundw
        case rel => exact ⟨i + 1, kk, by go_num, rfl, by omega, R.out, by first | rfl | trivial⟩
        case measure => simp [intOf]; omega
    · obtain rfl : i = l.length := by omega
      rw [List.take_length] at hP
      have HP : Hid _ := hP
      clear hP
      go_wp2
      go_ret
      first | exact ⟨⟨kk, rfl, HP.out⟩, rfl⟩ | exact ⟨⟨kk, rfl, HP.out⟩, trivial⟩
set_option maxHeartbeats 1000000 in
theorem rlUntil_any (g : Nat) (q p : Option Nat) (n r : Int) (l : List (Int × Int)) (x : Int) (w : World) (h : (rlOb g q p n r l).Ok w) (hw : LsWf (n - 2 * r) l) (hn : 1 ≤ n ∧ n ≤ 1000) (hr : 1 ≤ r ∧ r ≤ 1000) :
    Calls Try.prog 16 #[.pointer (some ⟨g, 0, none⟩), .int .i64 x] w fun e w' => e = .returned (.int .i64 (untilOf (n - 2 * r) l x)) ∧ Below w.heap.size w w' := by
  have HP : Hid _ := rlplace_any g q p n r l x w h (by have := hw.full; omega)
  obtain ⟨-, v, u, hG, -, h3⟩ := h.holds
  have c0 := blk_at hG 0
  have c1 := blk_at hG 1
  have c3 := blk_at hG 3
  simp at c0 c1 c3
  obtain ⟨ua, uc, hu, huc, hum, hcs⟩ := h3.open
  rw [List.length_map] at hu huc
  simp only [List.length_map, List.getElem_map] at hcs
  rw [hu] at c3
  have HC : Hid _ := And.intro hcs hw
  clear hcs h3 hG h hw hu
  obtain ⟨n1, n2⟩ := hn
  obtain ⟨r1, r2⟩ := hr
  go_enter Try.func16, Try.ntmps16
  go_wp2_with fail
  refine (Calls.mono HP.out) ?_
  rintro e w1 ⟨⟨kk, rfl, hpl⟩, rfl⟩
  rcases hpl.is with ⟨rfl, hno⟩ | ⟨k, y, hk, rfl, hyk, h1, h2⟩
  · have HU : Hid _ := (by unfold untilOf; rw [lastOf_no hno]; simp [endOf] : untilOf (n - 2 * r) l x = 0)
    clear hno HP
    go_wp2_with fail
    go_quiet (fail)
    go_wp2
    go_ret
    exact ⟨by rw [HU.out]; rfl, dn _ _ _⟩
  · obtain ⟨b, off, rfl, -, k1⟩ := HC.out.1 k hk
    rw [List.getElem?_eq_getElem hk] at hyk
    cases hyk
    have hx := HC.out.2.each l[k] (List.getElem_mem _)
    have hw1 : IntKind.i64.wrap (2 * r) = 2 * r := by rw [IntKind.wrap_i64] <;> omega
    have hw2 : IntKind.i64.wrap (n - 2 * r) = n - 2 * r := by rw [IntKind.wrap_i64] <;> omega
    have d1 : decide ((k : Int) < 0) = false := decide_eq_false (by omega)
    have q1 : (k : Int) < l.length := by omega
    by_cases hs : n - 2 * r ≤ 0
    · have HU : Hid _ := (by unfold untilOf endOf; rw [if_pos (.inr hs)] : untilOf (n - 2 * r) l x = 0)
      have d2 : decide (IntKind.i64.wrap (n - IntKind.i64.wrap (2 * r)) ≤ 0) = true := decide_eq_true (by rw [hw1, hw2]; exact hs)
      clear HP h1 h2 hx hw1 hw2
      go_wp2_with fail
      go_quiet (fail)
      go_wp2
      go_ret
      exact ⟨by rw [HU.out]; rfl, dn _ _ _⟩
    · have HU : Hid _ := (by unfold untilOf endOf; rw [h2, if_neg (by omega)] : untilOf (n - 2 * r) l x = l[k].2 + (n - 2 * r))
      have hy := hx.2.2
      generalize l[k].2 = y at *
      have d2 : decide (IntKind.i64.wrap (n - IntKind.i64.wrap (2 * r)) ≤ 0) = false := decide_eq_false (by rw [hw1, hw2]; exact hs)
      have hw3 : IntKind.i64.wrap (y + IntKind.i64.wrap (n - IntKind.i64.wrap (2 * r))) = y + (n - 2 * r) := by rw [hw1, hw2, IntKind.wrap_i64] <;> omega
      have HW : Hid _ := hw3
      clear HP h1 h2 hx hw1 hw2 hw3
      have B : Hid _ := dn w.heap.size w
      go_wp2_with fail
      go_quiet (fail)
      go_wp2_with fail
      go_quiet (fail)
      go_wp2
      go_ret
      refine ⟨by rw [HU.out, ← HW.out]; rfl, ?_⟩
      exact (dn _ _ _).trans (dn _ _ _)
set_option maxHeartbeats 1000000 in
theorem rlHolds_any (g : Nat) (q p : Option Nat) (n r : Int) (l : List (Int × Int)) (x now : Int) (w : World) (h : (rlOb g q p n r l).Ok w) (hw : LsWf (n - 2 * r) l) (hn : 1 ≤ n ∧ n ≤ 1000) (hr : 1 ≤ r ∧ r ≤ 1000) :
    Calls Try.prog 18 #[.pointer (some ⟨g, 0, none⟩), .int .i64 x, .int .i64 now] w fun e w' => e = .returned (.bool (holdsOf (n - 2 * r) l x now)) ∧ Below w.heap.size w w' := by
  have HP : Hid _ := rlplace_any g q p n r l x w h (by have := hw.full; omega)
  have HU : Hid _ := rlUntil_any g q p n r l x w h hw hn hr
  obtain ⟨-, v, u, hG, -, h3⟩ := h.holds
  have c3 := blk_at hG 3
  simp at c3
  obtain ⟨ua, uc, hu, huc, hum, hcs⟩ := h3.open
  rw [List.length_map] at hu huc
  simp only [List.length_map, List.getElem_map] at hcs
  rw [hu] at c3
  have HC : Hid _ := hcs
  clear hcs h3 hG h hw hu
  go_enter Try.func18, Try.ntmps18
  go_wp2_with fail
  refine (Calls.mono HP.out) ?_
  rintro e w1 ⟨⟨kk, rfl, hpl⟩, rfl⟩
  rcases hpl.is with ⟨rfl, hno⟩ | ⟨k, y, hk, rfl, hyk, h1, h2⟩
  · have HH : Hid _ := (by unfold holdsOf untilOf; rw [lastOf_no hno]; simp [endOf] : holdsOf (n - 2 * r) l x now = false)
    clear hno HP HU
    go_wp2
    go_ret
    exact ⟨by rw [HH.out]; rfl, Below.refl _ _⟩
  · obtain ⟨b, off, rfl, -, k1⟩ := HC.out k hk
    rw [List.getElem?_eq_getElem hk] at hyk
    cases hyk
    have HH : Hid _ := (by unfold holdsOf; rw [h2] : holdsOf (n - 2 * r) l x now = (decide (l[k].2 ≤ now) && decide (now < untilOf (n - 2 * r) l x)))
    have hk0 : (0 : Int) ≤ (k : Int) := by omega
    have q1 : (k : Int) < l.length := by omega
    clear h1 h2 HP hpl
    generalize l[k].2 = y at *
    generalize untilOf (n - 2 * r) l x = ut at *
    by_cases hy : y ≤ now
    · go_wp2_with fail
      refine (Calls.mono HU.out) ?_
      rintro e w2 ⟨rfl, b2⟩
      have B2 : Hid _ := b2
      clear b2 HU
      by_cases hu : now < ut
      · go_wp2
        go_ret
        exact ⟨by rw [HH.out, decide_eq_true hy, decide_eq_true hu]; rfl, B2.out⟩
      · go_wp2
        go_ret
        exact ⟨by rw [HH.out, decide_eq_false (show ¬ now < ut by omega)]; simp, B2.out⟩
    · clear HU
      go_wp2
      go_ret
      exact ⟨by rw [HH.out, decide_eq_false (show ¬ y ≤ now by omega)]; rfl, Below.refl _ _⟩
end Go.Proofs.Ytjelbekjmfnenaa
