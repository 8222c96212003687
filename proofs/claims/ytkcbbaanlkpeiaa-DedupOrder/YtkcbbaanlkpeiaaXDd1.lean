/- Answers that are kept: where a number stands among them. -/
import Derived.Test.YtkcbbaanlkpeiaaXAid
import Derived.Test.YtkcbbaanlkpeiaaXDraw
import Derived.Test.YtkcbbaanlkpeiaaXMp
import Derived.Test.YtkcbbaanlkpeiaaXDkW4
import Derived.BigQuiet
namespace Go.Proofs.Ytkcbbaanlkpeiaa
open Go.RowKit
set_option linter.unusedVariables false
set_option linter.unusedSimpArgs false
set_option maxRecDepth 4000

/-- an answer: its nexus, its number, its bytes -/
abbrev An := Int × Int × ByteArray
def acells (l : List An) : List Value := l.flatMap (fun a => [.int .i64 a.1, .int .i64 a.2.1, .string a.2.2])
theorem acells_append (l k : List An) : acells (l ++ k) = acells l ++ acells k := List.flatMap_append
theorem acells_length (l : List An) : (acells l).length = l.length * 3 := by
  induction l with
  | nil => rfl
  | cons h l ih => unfold acells at *; rw [List.flatMap_cons, List.length_append, ih]; simp; omega
theorem acells_at (l : List An) (i : Nat) (hi : i < l.length) : (acells l)[i * 3]? = some (.int .i64 l[i].1) ∧ (acells l)[i * 3 + 1]? = some (.int .i64 l[i].2.1) ∧ (acells l)[i * 3 + 2]? = some (.string l[i].2.2) := by
  induction l generalizing i with
  | nil => simp at hi
  | cons h l ih =>
    unfold acells at *
    rw [List.flatMap_cons]
    cases i with
    | zero => simp
    | succ i =>
      have := ih i (by simpa using hi)
      rw [List.getElem?_append_right (by simp; omega), List.getElem?_append_right (by simp; omega), List.getElem?_append_right (by simp; omega)]
      have e1 : (i + 1) * 3 - [Value.int .i64 h.1, Value.int .i64 h.2.1, Value.string h.2.2].length = i * 3 := by simp; omega
      have e2 : (i + 1) * 3 + 1 - [Value.int .i64 h.1, Value.int .i64 h.2.1, Value.string h.2.2].length = i * 3 + 1 := by simp; omega
      have e3 : (i + 1) * 3 + 2 - [Value.int .i64 h.1, Value.int .i64 h.2.1, Value.string h.2.2].length = i * 3 + 2 := by simp; omega
      rw [e1, e2, e3, this.1, this.2.1, this.2.2]
      simp
theorem acells_one (l : List An) : ∀ u ∈ acells l, u.oneCell' = true := by
  intro u hu
  unfold acells at hu
  obtain ⟨r, _, hr⟩ := List.mem_flatMap.1 hu
  simp at hr
  rcases hr with rfl | rfl | rfl <;> rfl
/-- answers of an object's own -/
def AOwn (w : World) (v : Value) (l : List An) : Prop := w.ownsRow 0 90 3 v l.length (acells l)
theorem AOwn.nil (w : World) : AOwn w (.slice none 0 0) [] := World.ownsRow_nil w 0 _ 3
theorem AOwn.same {w w' : World} {v : Value} {l : List An} (h : AOwn w v l) (hb : ∀ k, v.ownBlock = some k → w'.heap[k]? = w.heap[k]?) : AOwn w' v l := ownsRow_same h hb
theorem AOwn.lt {w : World} {v : Value} {l : List An} (h : AOwn w v l) (k : Nat) (hk : v.ownBlock = some k) : k < w.heap.size := (World.ownsRow.lt h k hk).2
theorem AOwn.later {w w' : World} {v : Value} {l : List An} (h : AOwn w v l) (hb : Below w.heap.size w w') : AOwn w' v l := h.same (fun k hk => hb.block k (h.lt k hk))
theorem AOwn.open {w : World} {v : Value} {l : List An} (h : AOwn w v l) : ∃ a c, v = .slice a l.length c ∧ l.length ≤ c ∧ ∀ i (hi : i < l.length), ∃ b, a = some ⟨b, 0, none⟩ ∧ v.ownBlock = some b ∧ w.cell? ⟨b, i * 3, none⟩ = some (.int .i64 l[i].1) ∧ w.cell? ⟨b, i * 3 + 1, none⟩ = some (.int .i64 l[i].2.1) ∧ w.cell? ⟨b, i * 3 + 2, none⟩ = some (.string l[i].2.2) := by
  have h0 := h
  obtain ⟨h1, ⟨h2, h3⟩ | ⟨g, cap, cur, rfl, hb, hh, hc, hm, hs, ht⟩⟩ := h
  · exact ⟨none, 0, by rw [h2, h3], by omega, fun i hi => by omega⟩
  · refine ⟨_, cap, rfl, hc, fun i hi => ⟨g, rfl, rfl, ?_, ?_, ?_⟩⟩
    · rw [World.ownsRow.cellAt h0 _ (by omega)]; exact (acells_at l i hi).1
    · rw [World.ownsRow.cellAt h0 _ (by omega)]; exact (acells_at l i hi).2.1
    · rw [World.ownsRow.cellAt h0 _ (by omega)]; exact (acells_at l i hi).2.2
theorem an_number (a b : Int) (s : ByteArray) (w : World) :
    Calls Try.prog 35 #[.agg #[.int .i64 a, .int .i64 b, .string s]] w fun e w' => e = .returned (.int .i64 b) ∧ Below w.heap.size w w' := by
  have F : Hid (Below w.heap.size w (w.alloc (.cells #[.int .i64 a, .int .i64 b, .string s] 90))) := (Below.refl _ _).alloc (Nat.le_refl _) _
  go_enter Try.func35, Try.ntmps35
  go_wp2
  go_ret
  exact ⟨rfl, F.out⟩
theorem meth_answer (a b : Int) (s : ByteArray) (w : World) : (method 259 90 (.agg #[.int .i64 a, .int .i64 b, .string s]) "caisson/dedup.number").run Try.prog w = .ok (35, .agg #[.int .i64 a, .int .i64 b, .string s]) w := by kernel_rfl
theorem isNaN_no (x : Int) (w : World) : Calls Try.prog 90 #[.int .i64 x] w fun e w' => e = .returned (.bool false) ∧ w = w' := by
  go_enter Try.func90, Try.ntmps90
  go_wp2
  go_ret
  exact ⟨rfl, rfl⟩
def cmpN (x y : Int) : Int := if x < y then -1 else if y < x then 1 else 0
theorem compare_any (x y : Int) (w : World) : Calls Try.prog 86 #[.int .i64 x, .int .i64 y] w fun e w' => e = .returned (.int .i64 (cmpN x y)) ∧ w = w' := by
  have HX : Hid _ := isNaN_no x w
  have HY : Hid _ := isNaN_no y w
  have hc : (x < y ∧ cmpN x y = -1) ∨ (¬ x < y ∧ x > y ∧ cmpN x y = 1) ∨ (¬ x < y ∧ ¬ x > y ∧ cmpN x y = 0) := by
    unfold cmpN
    by_cases h1 : x < y
    · exact .inl ⟨h1, if_pos h1⟩
    · by_cases h2 : y < x
      · exact .inr (.inl ⟨h1, h2, by rw [if_neg h1, if_pos h2]⟩)
      · exact .inr (.inr ⟨h1, by omega, by rw [if_neg h1, if_neg h2]⟩)
  rcases hc with ⟨h1, e⟩ | ⟨h1, h2, e⟩ | ⟨h1, h2, e⟩
  all_goals
    rw [e]
    clear e
    go_enter Try.func86, Try.ntmps86
    go_wp2_with fail
    refine (Calls.mono HX.out) ?_
    rintro e w1 ⟨rfl, rfl⟩
    go_wp2_with fail
    refine (Calls.mono HY.out) ?_
    rintro e w1 ⟨rfl, rfl⟩
    go_wp2
    go_ret
    exact ⟨rfl, rfl⟩
set_option maxHeartbeats 400000 in
theorem slot1_any (a b : Int) (s : ByteArray) (n : Int) (w : World) :
    Calls Try.prog 85 #[.agg #[.int .i64 a, .int .i64 b, .string s], .int .i64 n] w fun e w' => e = .returned (.int .i64 (cmpN b n)) ∧ Below w.heap.size w w' := by
  have bn : Below w.heap.size w (w.alloc (.cells #[.int .i64 a, .int .i64 b, .string s] 90)) := (Below.refl _ _).alloc (Nat.le_refl _) _
  have HN : Hid _ := an_number a b s (w.alloc (.cells #[.int .i64 a, .int .i64 b, .string s] 90))
  have hm := meth_answer a b s
  have HB : Hid _ := bn
  clear bn
  go_enter Try.func85, Try.ntmps85
  go_wp2_with fail
  refine (Calls.mono HN.out) ?_
  rintro e w1 ⟨rfl, b1⟩
  have HC : Hid _ := compare_any b n w1
  have B1 : Hid _ := below_then HB.out b1
  clear b1 HN hm
  go_wp2_with fail
  refine (Calls.mono HC.out) ?_
  rintro e w2 ⟨rfl, rfl⟩
  clear HC
  go_wp2
  go_ret
  exact ⟨rfl, B1.out⟩
end Go.Proofs.Ytkcbbaanlkpeiaa

/- Where a number stands among answers; the first one from there on. -/
namespace Go.Proofs.Ytkcbbaanlkpeiaa
open Go.RowKit
set_option linter.unusedVariables false
set_option linter.unusedSimpArgs false
set_option maxRecDepth 4000

/-- i answers have numbers below n, and they stand first -/
structure SlotIs (l : List An) (n : Int) (i : Nat) : Prop where
  le : i ≤ l.length
  lo : ∀ k (hk : k < l.length), k < i → l[k].2.1 < n
  hi : ∀ k (hk : k < l.length), i ≤ k → n ≤ l[k].2.1
/-- answers rise by their numbers -/
def Rise (l : List An) : Prop := l.Pairwise (fun a b => a.2.1 < b.2.1)
structure SrI (l : List An) (n : Int) (i j : Nat) : Prop where
  ij : i ≤ j
  jl : j ≤ l.length
  lo : ∀ k (hk : k < l.length), k < i → l[k].2.1 < n
  hi : ∀ k (hk : k < l.length), j ≤ k → n ≤ l[k].2.1
theorem Rise.lt {l : List An} (h : Rise l) (i j : Nat) (hi : i < l.length) (hj : j < l.length) (hij : i < j) : l[i].2.1 < l[j].2.1 := List.pairwise_iff_getElem.1 h i j hi hj hij
set_option maxHeartbeats 2000000 in
theorem search_any (v : Value) (l : List An) (n : Int) (w : World) (ho : AOwn w v l) (hr : Rise l) (hl : l.length ≤ 1000) :
    Calls Try.prog 84 #[v, .int .i64 n, .func (.func 85) #[] #[]] w fun e w' => (∃ (i : Nat) (b : Bool), e = .returned (.tuple #[.int .i64 i, .bool b]) ∧ SlotIs l n i) ∧ Below w.heap.size w w' := by
  obtain ⟨va, vc, rfl, hvc, hcs⟩ := ho.open
  have HC : Hid _ := And.intro hcs hr
  clear hcs ho hr
  go_enter Try.func84, Try.ntmps84
  go_wp2_with fail
  go_loopw [9, 10] (fun iv jv wr => ∃ (i j : Nat), iv = .int .i64 i ∧ jv = .int .i64 j ∧ SrI l n i j ∧ Below w.heap.size w wr) (fun iv jv _ => (intOf jv - intOf iv).toNat)
  case atStart => exact ⟨0, l.length, rfl, rfl, ⟨by omega, by omega, (fun k hk h => by omega), (fun k hk h => by omega)⟩, Below.refl _ _⟩
  case round =>
    obtain ⟨i, j, rfl, rfl, hI, hb⟩ := hrel
    have hij := hI.ij
    have hjl := hI.jl
    by_cases hlt : i < j
    · obtain ⟨h, hh⟩ : ∃ h : Nat, h = (i + j) / 2 := ⟨_, rfl⟩
      have hhl : h < l.length := by omega
      obtain ⟨b, rfl, -, k1, k2, k3⟩ := HC.out.1 h hhl
      have k1' := cell_later hb k1
      have k2' := cell_later hb k2
      have k3' := cell_later hb k3
      have H1 : Hid _ := slot1_any l[h].1 l[h].2.1 l[h].2.2 n wr
      have hlow : Hid (l[h].2.1 < n → SrI l n (h + 1) j) := fun e => ⟨by omega, hjl, fun k hk hkh => by
        rcases Nat.lt_or_ge k h with h2 | h2
        · have := HC.out.2.lt k h hk hhl h2; omega
        · obtain rfl : k = h := by omega
          exact e, hI.hi⟩
      have hhigh : Hid (¬ l[h].2.1 < n → SrI l n i h) := fun e => ⟨by omega, by omega, hI.lo, fun k hk hkh => by
        rcases Nat.lt_or_ge h k with h2 | h2
        · have := HC.out.2.lt h k hhl hk h2; omega
        · obtain rfl : k = h := by omega
          omega⟩
      have q1 : (i : Int) < j := by omega
      have q2 : (i : Int) + j ≤ 2000 := by omega
      have HB : Hid _ := hb
      have hcast : ((i : Int) + j) / 2 = (h : Int) := by omega
      have HCa : Hid _ := hcast
      generalize hl1 : l[h].1 = y1 at *
      generalize l[h].2.1 = y at *
      generalize l[h].2.2 = y3 at *
      rw [hh] at k1' k2' k3'
      clear hb k1 k2 k3 hI hcast hl1
      by_cases hy : y < n
      · have ec : cmpN y n = -1 := if_pos hy
        rw [ec] at H1
        have R : Hid _ := hlow.out hy
        clear hlow hhigh ec
        go_wp2_with fail
        refine (Calls.mono H1.out) ?_
        rintro e w2 ⟨rfl, b2⟩
        have F : Hid _ := below_then HB.out b2
        clear b2 H1
        go_wp2
        go_roundw
        case rel => exact ⟨h + 1, j, by rw [HCa.out]; go_num, rfl, R.out, F.out⟩
        case measure => simp [intOf]; omega
      · have ec : ¬ cmpN y n < 0 := by unfold cmpN; rw [if_neg hy]; split <;> omega
        generalize cmpN y n = cv at *
        have R : Hid _ := hhigh.out hy
        clear hlow hhigh
        go_wp2_with fail
        refine (Calls.mono H1.out) ?_
        rintro e w2 ⟨rfl, b2⟩
        have F : Hid _ := below_then HB.out b2
        clear b2 H1
        go_wp2
        go_roundw
        case rel => exact ⟨i, h, rfl, by rw [HCa.out], R.out, F.out⟩
        case measure => simp [intOf]; omega
    · obtain rfl : i = j := by omega
      have R : Hid (SlotIs l n i) := ⟨hjl, hI.lo, hI.hi⟩
      have HB : Hid _ := hb
      clear hb hI
      by_cases hil : i < l.length
      · obtain ⟨b, rfl, -, k1, k2, k3⟩ := HC.out.1 i hil
        have k1' := cell_later HB.out k1
        have k2' := cell_later HB.out k2
        have k3' := cell_later HB.out k3
        have H1 : Hid _ := slot1_any l[i].1 l[i].2.1 l[i].2.2 n wr
        have q1 : (i : Int) < l.length := by omega
        generalize l[i].1 = y1 at *
        generalize l[i].2.1 = y at *
        generalize l[i].2.2 = y3 at *
        generalize cmpN y n = cv at *
        clear k1 k2 k3
        go_wp2_with fail
        refine (Calls.mono H1.out) ?_
        rintro e w2 ⟨rfl, b2⟩
        have F : Hid _ := below_then HB.out b2
        clear b2 H1
        by_cases h0 : cv = 0
        · have HZ : Hid _ := h0
          go_wp2
          go_ret2
          exact ⟨⟨i, _, rfl, R.out⟩, F.out⟩
        · go_wp2
          go_ret2
          exact ⟨⟨i, _, rfl, R.out⟩, F.out⟩
      · have q1 : ¬ (i : Int) < l.length := by omega
        go_wp2
        go_ret2
        refine ⟨?_, HB.out⟩
        first | exact ⟨i, false, rfl, R.out⟩ | exact ⟨i, .inl rfl, R.out⟩
end Go.Proofs.Ytkcbbaanlkpeiaa
