/- The document's reader. -/
import Derived.Test.YthcdhpmkhegkpaaXFieldQ2
import Derived.Test.YthcdhpmkhegkpaaXFieldRef
namespace Go.Proofs.Ythcdhpmkhegkpaa
open Go.RowKit

theorem grown_refl (w : World) (row : Option Nat) : w.grownBy w row := ⟨rfl, rfl, rfl, Nat.le_refl _, fun _ _ _ => rfl⟩

theorem numE_ne {len : Nat} {size : Int} (h : numE len size ≠ 0) : numE len size = (if size < 1 ∨ 8 < size then 1 else 10) ∧ (¬ (size < 1 ∨ 8 < size) → (len : Int) < size) := by
  unfold numE widthB at *
  by_cases h1 : size < 1 ∨ 8 < size
  · have : decide (1 ≤ size ∧ size ≤ 8) = false := by rw [decide_eq_false_iff_not]; omega
    rw [this, if_pos rfl, if_pos h1]
    exact ⟨rfl, fun h => absurd h1 h⟩
  · have : decide (1 ≤ size ∧ size ≤ 8) = true := by rw [decide_eq_true_eq]; omega
    rw [this, if_neg (by decide)] at h ⊢
    rw [if_neg h1]
    by_cases h2 : (len : Int) < size
    · rw [if_pos h2]; exact ⟨rfl, fun _ => h2⟩
    · rw [if_neg h2] at h; exact absurd rfl h

set_option maxHeartbeats 400000 in
theorem rNum_err (g : Nat) (a : Option Addr) (len cap : Nat) (E size : Int) (w : World) (hB : Blk w g 108 [.slice a len cap, .int .i64 E]) (hE : E ≠ 0) :
    Calls Try.prog 49 #[.pointer (some ⟨g, 0, none⟩), .int .i64 size] w fun e w' => e = .returned (.int .i64 0) ∧ w = w' := by
  have c1 := hB.cell (by simp [maxLen]) 1 (by simp)
  simp only [List.getElem?_cons_zero, List.getElem?_cons_succ] at c1
  clear hB
  go_enter Try.func49, Try.ntmps49
  go_wp2
  go_ret
  exact ⟨rfl, rfl⟩

set_option maxHeartbeats 400000 in
theorem rNum_no (g : Nat) (a : Option Addr) (len cap : Nat) (size : Int) (w : World) (hB : Blk w g 108 [.slice a len cap, .int .i64 0]) (hE : numE len size ≠ 0) :
    Calls Try.prog 49 #[.pointer (some ⟨g, 0, none⟩), .int .i64 size] w fun e w' => e = .returned (.int .i64 0) ∧ Blk w' g 108 [.slice a len cap, .int .i64 (numE len size)] ∧ w.grownBy w' (some g) := by
  have c1 := hB.cell (by simp [maxLen]) 1 (by simp)
  have c0 := hB.cell (by simp [maxLen]) 0 (by simp)
  have f1 := hB.frozen (by simp [maxLen]) 1
  simp only [List.getElem?_cons_zero, List.getElem?_cons_succ] at c1 c0
  have B1 := hB.set 1 (.int .i64 (numE len size))
  have G1 := grown_set w g 1 (.int .i64 (numE len size))
  obtain ⟨H, H2⟩ := numE_ne hE
  rw [H] at B1 G1 ⊢
  clear hB hE H
  by_cases h1 : size < 1
  · rw [if_pos (Or.inl h1)] at *
    have R : Hid _ := And.intro B1 G1
    clear B1 G1 H2
    go_enter Try.func49, Try.ntmps49
    go_wp2
    go_ret
    exact ⟨rfl, R.out.1, R.out.2⟩
  by_cases h2 : 8 < size
  · rw [if_pos (Or.inr h2)] at *
    have R : Hid _ := And.intro B1 G1
    clear B1 G1 H2
    go_enter Try.func49, Try.ntmps49
    go_wp2
    go_ret
    exact ⟨rfl, R.out.1, R.out.2⟩
  have h3 := H2 (by omega)
  rw [if_neg (by omega)] at *
  have R : Hid _ := And.intro B1 G1
  clear B1 G1 H2
  go_enter Try.func49, Try.ntmps49
  go_wp2
  go_ret
  exact ⟨rfl, R.out.1, R.out.2⟩

set_option maxHeartbeats 400000 in
theorem rNum_yes (F : List Nat) (g : Nat) (L : List (BitVec 8)) (s : Nat) (w : World) (hR : Rd w F g 108 L 0) (hE : numE L.length s = 0) :
    Calls Try.prog 49 #[.pointer (some ⟨g, 0, none⟩), .int .i64 s] w fun e w' => e = .returned (.int .i64 (wrap64 ((numTo L 0 s).toNat : Int))) ∧ Rd w' F g 108 (L.drop s) 0 ∧ w.grownBy w' (some g) := by
  obtain ⟨a, len, cap, l, hR⟩ := hR
  have hl := hR.ok rfl
  subst hl
  obtain ⟨s', hs', h1, h2, h3⟩ := numE_0 hE
  obtain rfl : s = s' := by omega
  clear hs' hE
  have c1 := hR.blk.cell (by simp [maxLen]) 1 (by simp)
  have c0 := hR.blk.cell (by simp [maxLen]) 0 (by simp)
  have f0 := hR.blk.frozen (by simp [maxLen]) 0
  simp only [List.getElem?_cons_zero, List.getElem?_cons_succ] at c0 c1
  have hB := hR.blk
  have hb := hR.bound
  have hle := hR.len_eq
  have hcap := hR.le
  rw [hle] at h3
  rcases id hR.row with h0 | ⟨b, off, rfl, hc⟩
  · subst h0; simp at hle; omega
  have q1 : (s : Int) ≤ (len : Int) := by omega
  have q2 : (0 : Int) ≤ (s : Int) := by omega
  have q3 : ¬ (s : Int) < 1 := by omega
  have q4 : ¬ (8 : Int) < (s : Int) := by omega
  have q5 : ¬ (len : Int) < (s : Int) := by omega
  by_cases hcs : cap = s
  · subst hcs
    have G := rGet_yes b off len cap l 0 cap w hle (by omega) hc h1 h2 (by omega)
    have R : Hid _ := And.intro hR (hB.set 0 (.slice (some ⟨b, off, none⟩) 0 0))
    clear hR hB hc
    go_enter Try.func49, Try.ntmps49
    go_wp2_with fail
    refine Calls.mono G ?_
    rintro e w' ⟨rfl, rfl⟩
    clear G
    go_wp2
    go_ret
    exact ⟨rfl, R.out.1.cut cap (by omega) (.inr ⟨rfl, rfl⟩) (by rw [show len - cap = 0 by omega, Nat.sub_self]; exact R.out.2) (grown_set _ _ _ _), grown_set _ _ _ _⟩
  · have G := rGet_yes b off len cap l 0 s w hle (by omega) hc h1 h2 (by omega)
    have R : Hid _ := And.intro hR (hB.set 0 (.slice (some ⟨b, off + s, none⟩) (len - s) (cap - s)))
    clear hR hB hc
    go_enter Try.func49, Try.ntmps49
    go_wp2_with fail
    refine Calls.mono G ?_
    rintro e w' ⟨rfl, rfl⟩
    clear G
    go_wp2
    go_ret
    exact ⟨rfl, R.out.1.cut s (by omega) (.inl rfl) R.out.2 (grown_set _ _ _ _), grown_set _ _ _ _⟩

theorem rNum_any (F : List Nat) (g : Nat) (L : List (BitVec 8)) (E size : Int) (w : World) (hR : Rd w F g 108 L E) :
    Calls Try.prog 49 #[.pointer (some ⟨g, 0, none⟩), .int .i64 size] w fun e w' => e = .returned (.int .i64 (rdNum L E size).2.2) ∧ Rd w' F g 108 (rdNum L E size).1 (rdNum L E size).2.1 ∧ w.grownBy w' (some g) := by
  by_cases hE : E = 0
  · subst hE
    by_cases hn : numE L.length size = 0
    · have e : rdNum L 0 size = (L.drop size.toNat, 0, wrap64 ((numTo L 0 size.toNat).toNat : Int)) := by unfold rdNum; rw [if_pos rfl, if_pos hn]
      rw [e]
      obtain ⟨s, rfl, _, _, _⟩ := numE_0 hn
      exact rNum_yes F g L s w hR hn
    · have e : rdNum L 0 size = ([], numE L.length size, 0) := by unfold rdNum; rw [if_pos rfl, if_neg hn]
      rw [e]
      obtain ⟨a, len, cap, l, hR⟩ := hR
      have hl := hR.ok rfl
      subst hl
      rw [hR.len_eq] at hn ⊢
      refine (rNum_no g a len cap size w hR.blk hn).mono ?_
      rintro e w' ⟨rfl, hB, hg⟩
      exact ⟨rfl, ⟨a, len, cap, l, hR.turn hB hg (fun h => absurd h hn)⟩, hg⟩
  · have e : rdNum L E size = ([], E, 0) := by unfold rdNum; rw [if_neg hE]
    rw [e]
    obtain ⟨a, len, cap, l, hR⟩ := hR
    refine (rNum_err g a len cap E size w hR.blk hE).mono ?_
    rintro e w' ⟨rfl, rfl⟩
    exact ⟨rfl, ⟨a, len, cap, l, hR.turn hR.blk (grown_refl _ _) (fun h => absurd h hE)⟩, grown_refl _ _⟩






/-- a count that fails: the bytes are put back -/
theorem count_back {w w1 : World} {F : List Nat} {g T : Nat} {L : List (BitVec 8)} {E E' : Int} {a a1 : Option Addr} {len cap len1 cap1 : Nat} {l : List (BitVec 8)} (h : RdAt w F g T L E a len cap l) (hB : Blk w1 g T [.slice a1 len1 cap1, .int .i64 E']) (hg : w.grownBy w1 (some g)) (hE : E' ≠ 0) :
    Rd (w1.setCell ⟨g, 0, none⟩ (.slice a len cap)) F g T [] E' ∧ w.grownBy (w1.setCell ⟨g, 0, none⟩ (.slice a len cap)) (some g) :=
  ⟨⟨a, len, cap, l, h.turn (hB.set 0 (.slice a len cap)) (grown_trans hg (grown_set _ _ _ _)) (fun e => absurd e hE)⟩, grown_trans hg (grown_set _ _ _ _)⟩


/-- a reader that was made of bytes that the call owns -/
theorem Rd.made {w1 w2 : World} {base g T : Nat} {a : Option Addr} {cap : Nat} {l : List (BitVec 8)} {row : Option Nat} (ho : Own w1 base (.slice a l.length cap) l) (hB : Blk w2 g T [.slice a l.length cap, .int .i64 0]) (hg : w1.grownBy w2 row) (hrow : ∀ x, a = some x → some x.block ≠ row)
    (hne : ∀ x, a = some x → x.block ≠ g) (hl : l.length ≤ 140737488351232) (F : List Nat) (hF : ∀ k ∈ F, k < base) : Rd w2 F g T l 0 := by
  obtain ⟨a2, cap2, hv, hle2, hm2, hr2, hn2, hg2⟩ := ho.open
  simp only [Value.slice.injEq] at hv
  obtain ⟨rfl, _, rfl⟩ := hv
  have hlt2 : ∀ x, a = some x → x.block < w1.heap.size := fun x hx => by subst hx; exact (World.ownsRow.lt ho x.block rfl).2
  have hge2 : ∀ x, a = some x → base ≤ x.block := fun x hx => by subst hx; exact (World.ownsRow.lt ho x.block rfl).1
  exact ⟨a, l.length, cap, l, hB, rfl, hle2, hl, hr2.keep hg hrow, hn2, fun x hx => Nat.lt_of_lt_of_le (hlt2 x hx) hg.size, fun x hx => ⟨hne x hx, fun hm => by have := hge2 x hx; have := hF _ hm; omega⟩, fun _ => rfl⟩

theorem Blk.new (w : World) (T : Nat) (xs : List Value) : Blk (w.alloc (.cells xs.toArray T)) w.heap.size T xs := by
  unfold Blk World.alloc
  simp

set_option maxHeartbeats 400000 in
theorem NewReader_any (a : Option Addr) (len cap : Nat) (l : List (BitVec 8)) (w : World) (hl : l.length = len) (hle : len ≤ cap) (hr : Row w a l) (hn : a = none → cap = 0) (hlen : len ≤ 140737488351232) :
    Calls Try.prog 61 #[.slice a len cap] w fun e w' => ∃ g, e = .returned (.pointer (some ⟨g, 0, none⟩)) ∧ w.heap.size ≤ g ∧ (∀ F : List Nat, (∀ k ∈ F, k < w.heap.size) → Rd w' F g 119 l 0) ∧ Below w.heap.size w w' := by
  subst hl
  go_enter Try.func61, Try.ntmps61
  go_wp2_with fail
  refine (clone_any a l.length cap l w rfl hle hr hn (by omega)).mono ?_
  rintro e w1 ⟨v, rfl, ho, hb1⟩
  obtain ⟨a2, cap2, rfl, hle2, hm2, hr2, hn2, hg2⟩ := ho.open
  have hlt2 : ∀ x, a2 = some x → x.block < w1.heap.size := fun x hx => by subst hx; exact (World.ownsRow.lt ho x.block rfl).2
  have K : Hid _ := And.intro (fun F hF => Rd.made ho (Blk.new w1 119 [.slice a2 l.length cap2, .int .i64 0]) (World.grownBy_alloc _ _ none) (fun x _ => by simp) (fun x hx => by have := hlt2 x hx; omega) (by omega) F hF) (And.intro hb1.size (hb1.alloc hb1.size (.cells #[.slice a2 l.length cap2, .int .i64 0] 119)))
  clear ho hr2 hr hb1 hlt2 hg2
  go_wp2
  go_ret
  exact ⟨w1.heap.size, rfl, K.out.2.1, K.out.1, K.out.2.2⟩

set_option maxHeartbeats 400000 in
theorem Of_any (a : Option Addr) (len cap : Nat) (l : List (BitVec 8)) (w : World) (hl : l.length = len) (hle : len ≤ cap) (hr : Row w a l) (hn : a = none → cap = 0) (hlen : len ≤ 140737488351232) :
    Calls Try.prog 48 #[.slice a len cap] w fun e w' => ∃ g, e = .returned (.pointer (some ⟨g, 0, none⟩)) ∧ w.heap.size ≤ g ∧ (∀ F : List Nat, (∀ k ∈ F, k < w.heap.size) → Rd w' F g 108 l 0) ∧ Below w.heap.size w w' := by
  subst hl
  have b0 : Below w.heap.size w (w.alloc (.cells #[.slice none 0 0, .int .i64 0] 108)) := (Below.refl _ _).alloc (Nat.le_refl _) _
  have hr' := hr.later b0
  go_enter Try.func48, Try.ntmps48
  go_wp2_with (at_builtin; refine wpList_append_bytes _ rfl _ _ rfl (w.heap.size + 1) _ [] rfl (Own.nil _ _) a l.length cap l rfl rfl hr' hn hle (by simp; omega) (by simp) ?_)
  intro v2 w2 ho2 hg2
  obtain ⟨a2, cap2, hv2, hle2, hm2, hr2, hn2, hg2'⟩ := ho2.open
  subst hv2
  have hge2 : ∀ x, a2 = some x → w.heap.size + 1 ≤ x.block := fun x hx => by subst hx; exact (World.ownsRow.lt ho2 x.block rfl).1
  have hB2 := (Blk.new w 108 [.slice none 0 0, .int .i64 0]).grown hg2 (by simp [Value.ownBlock])
  have c0 := hB2.cell (by simp [maxLen]) 0 (by simp)
  have f0 := hB2.frozen (by simp [maxLen]) 0
  simp only [List.getElem?_cons_zero] at c0
  have B3 := hB2.set 0 (.slice a2 l.length cap2)
  have G3 := grown_set w2 w.heap.size 0 (.slice a2 l.length cap2)
  have b2 : Below w.heap.size w w2 := b0.grown hg2 b0.size (by simp [Value.ownBlock])
  have K : Hid _ := And.intro (fun F (hF : ∀ k ∈ F, k < w.heap.size) => Rd.made ho2 B3 G3 (fun x hx e => by have := hge2 x hx; have e' : x.block = w.heap.size := (by simpa using e); omega) (fun x hx => by have := hge2 x hx; omega) (by omega) F (fun k hk => by have := hF k hk; omega)) (b2.trans (grown_below G3 _ (Nat.le_refl _) b2.size))
  clear ho2 hr2 hr hr' hge2 hg2 hg2' b0 b2 B3 G3 hB2
  go_wp2
  go_ret
  exact ⟨w.heap.size, rfl, Nat.le_refl _, K.out.1, K.out.2⟩
end Go.Proofs.Ythcdhpmkhegkpaa

