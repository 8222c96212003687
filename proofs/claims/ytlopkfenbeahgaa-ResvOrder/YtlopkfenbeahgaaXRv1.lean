/- A state of reservations in memory; the calls that only read it. -/
import Derived.Test.YtlopkfenbeahgaaXLs1
import Derived.Test.YtlopkfenbeahgaaXDraw
import Derived.Deep.CutRange
import Derived.Deep.QuietTactic
import Derived.BigQuiet
namespace Go.Proofs.Ytlopkfenbeahgaa
open Go.RowKit Go.Shelf
set_option linter.unusedVariables false
set_option linter.unusedSimpArgs false
set_option maxRecDepth 4000

/-- a state: how often keys changed, who holds, which type, who is fenced off, the keys -/
structure Rs where
  gen : Int
  h : Int
  k : Int
  f : List Bool
  ks : List Int
structure Rs.Wf (m : Rs) : Prop where
  fl : m.f.length = 16
  kl : m.ks.length = 16
  hh : 0 ≤ m.h ∧ m.h < 16
  kk : 0 ≤ m.k ∧ m.k ≤ 8
  gg : 0 ≤ m.gen ∧ m.gen < 4294967296
  each : ∀ i : Nat, 0 ≤ m.ks.getD i 0 ∧ m.ks.getD i 0 < 18446744073709551616
def rsC (m : Rs) : List Value := .int .u32 m.gen :: .int .i64 m.h :: .int .i64 m.k :: (m.f.map .bool ++ m.ks.map (.int .u64 ·))
def rv (g : Nat) (m : Rs) : Ob := ⟨[g], [], fun w => Blk w g 54 (rsC m) ∧ m.Wf⟩
theorem rv_ok {w : World} {g : Nat} {m : Rs} (h : Blk w g 54 (rsC m)) (hw : m.Wf) : (rv g m).Ok w :=
  ⟨⟨h, hw⟩, (fun k hk => by rcases hk with hk | hk; simp only [rv, List.mem_singleton] at hk; subst hk; exact h.lt; cases hk), (fun k _ hv => by cases hv), fun w1 w2 hs h => by
    have e := hs g (.inl (by simp [rv]))
    refine ⟨?_, h.2⟩
    have h' : Blk w1 g _ _ := h.1
    unfold Blk at *; rw [e]; exact h'⟩
theorem Rs.Wf.flag {m : Rs} (h : m.Wf) {w : World} {g : Nat} (hB : Blk w g 54 (rsC m)) (i : Nat) (hi : i < 16) : w.cell? ⟨g, 3 + i, none⟩ = some (.bool (m.f.getD i false)) := by
  have e := blk_at hB (3 + i)
  rw [e]
  unfold rsC
  rw [show 3 + i = i + 1 + 1 + 1 by omega]
  simp only [List.getElem?_cons_succ]
  rw [List.getElem?_append_left (by rw [List.length_map, h.fl]; exact hi), List.getElem?_map, List.getD, List.getElem?_eq_getElem (by rw [h.fl]; exact hi)]
  rfl
theorem Rs.Wf.key {m : Rs} (h : m.Wf) {w : World} {g : Nat} (hB : Blk w g 54 (rsC m)) (i : Nat) (hi : i < 16) : w.cell? ⟨g, 19 + i, none⟩ = some (.int .u64 (m.ks.getD i 0)) := by
  have e := blk_at hB (19 + i)
  rw [e]
  unfold rsC
  rw [show 19 + i = (16 + i) + 1 + 1 + 1 by omega]
  simp only [List.getElem?_cons_succ]
  rw [List.getElem?_append_right (by rw [List.length_map, h.fl]; omega), List.length_map, h.fl, Nat.add_sub_cancel_left, List.getElem?_map, List.getD, List.getElem?_eq_getElem (by rw [h.kl]; exact hi)]
  rfl
theorem dnr (B : Nat) (w : World) (n : Nat) : Below B w (w.drewN n) := ⟨rfl, rfl, rfl, Nat.le_refl _, fun _ _ => rfl⟩
def nxB (n : Int) : Bool := decide (0 ≤ n ∧ n < 16)
theorem isNx_any (n : Int) (w : World) : Calls Try.prog 21 #[.int .i64 n] w fun e w' => e = .returned (.bool (nxB n)) ∧ w = w' := by
  by_cases h : n ≥ 0
  · by_cases h2 : n < 16
    · have H : Hid (nxB n = true) := decide_eq_true (p := 0 ≤ n ∧ n < 16) ⟨h, h2⟩
      go_enter Try.func21, Try.ntmps21
      go_wp2
      go_ret
      exact ⟨by rw [H.out]; rfl, rfl⟩
    · have H : Hid (nxB n = false) := decide_eq_false (p := 0 ≤ n ∧ n < 16) (fun k => h2 k.2)
      go_enter Try.func21, Try.ntmps21
      go_wp2
      go_ret
      exact ⟨by rw [H.out]; rfl, rfl⟩
  · have H : Hid (nxB n = false) := decide_eq_false (p := 0 ≤ n ∧ n < 16) (fun k => h k.1)
    go_enter Try.func21, Try.ntmps21
    go_wp2
    go_ret
    exact ⟨by rw [H.out]; rfl, rfl⟩
def rg (m : Rs) (i : Nat) : Bool := m.ks.getD i 0 != 0
theorem isReg_any (g : Nat) (m : Rs) (i : Nat) (w : World) (h : (rv g m).Ok w) (hi : i < 16) : Calls Try.prog 24 #[.pointer (some ⟨g, 0, none⟩), .int .i64 i] w fun e w' => e = .returned (.bool (rg m i)) ∧ w = w' := by
  obtain ⟨hB, hW⟩ := h.holds
  have c := hW.key hB i hi
  have q : (i : Int) < 16 := by omega
  have H : Hid (rg m i = (m.ks.getD i 0 != 0)) := rfl
  clear hB hW
  clear h
  generalize m.ks.getD i 0 = x at *
  go_enter Try.func24, Try.ntmps24
  go_wp2
  go_ret
  exact ⟨by rw [H.out]; rfl, rfl⟩
def eaB (n : Int) : Bool := n == 7 || n == 8
theorem isEach_any (n : Int) (w : World) : Calls Try.prog 40 #[.int .i64 n] w fun e w' => e = .returned (.bool (eaB n)) ∧ w = w' := by
  by_cases h7 : n = 7
  · subst h7
    go_enter Try.func40, Try.ntmps40
    go_wp2
    go_ret
    exact ⟨rfl, rfl⟩
  go_enter Try.func40, Try.ntmps40
  go_wp2
  go_ret
  exact ⟨rfl, rfl⟩
def tyB (n : Int) : Bool := n == 1 || n == 3 || n == 5 || n == 6 || n == 7 || n == 8
theorem isType_any (n : Int) (w : World) : Calls Try.prog 43 #[.int .i64 n] w fun e w' => e = .returned (.bool (tyB n)) ∧ w = w' := by
  by_cases h1 : n = 1
  · subst h1
    go_enter Try.func43, Try.ntmps43
    go_wp2
    go_ret
    exact ⟨rfl, rfl⟩
  by_cases h3 : n = 3
  · subst h3
    go_enter Try.func43, Try.ntmps43
    go_wp2
    go_ret
    exact ⟨rfl, rfl⟩
  by_cases h5 : n = 5
  · subst h5
    go_enter Try.func43, Try.ntmps43
    go_wp2
    go_ret
    exact ⟨rfl, rfl⟩
  by_cases h6 : n = 6
  · subst h6
    go_enter Try.func43, Try.ntmps43
    go_wp2
    go_ret
    exact ⟨rfl, rfl⟩
  by_cases h7 : n = 7
  · subst h7
    go_enter Try.func43, Try.ntmps43
    go_wp2
    go_ret
    exact ⟨rfl, rfl⟩
  by_cases h8 : n = 8
  · subst h8
    go_enter Try.func43, Try.ntmps43
    go_wp2
    go_ret
    exact ⟨rfl, rfl⟩
  have H0 : tyB n = false := by unfold tyB; simp [h1, h3, h5, h6, h7, h8]
  have H : Hid (tyB n = false) := H0
  clear H0
  go_enter Try.func43, Try.ntmps43
  go_wp2
  go_ret
  exact ⟨by rw [H.out]; rfl, rfl⟩
def hoB (m : Rs) (i : Nat) : Bool := if m.k = 0 then false else if eaB m.k = true then rg m i else m.h == (i : Int)
theorem holds_any (g : Nat) (m : Rs) (i : Nat) (w : World) (h : (rv g m).Ok w) (hi : i < 16) : Calls Try.prog 27 #[.pointer (some ⟨g, 0, none⟩), .int .i64 i] w fun e w' => e = .returned (.bool (hoB m i)) ∧ w = w' := by
  obtain ⟨hB, hW⟩ := h.holds
  have y0 := blk_at hB 0
  have y1 := blk_at hB 1
  have y2 := blk_at hB 2
  simp only [rsC, List.getElem?_cons_zero, List.getElem?_cons_succ] at y0 y1 y2
  have HR : Hid _ := isReg_any g m i w h hi
  have HE : Hid _ := isEach_any m.k w
  have H : Hid (hoB m i = if m.k = 0 then false else if eaB m.k = true then rg m i else m.h == (i : Int)) := rfl
  clear h y0
  clear hB hW
  generalize hoB m i = res at *
  generalize m.k = k at *
  generalize m.h = hh at *
  generalize rg m i = r at *
  by_cases h0 : k = 0
  · rw [if_pos h0] at H
    subst h0
    go_enter Try.func27, Try.ntmps27
    go_wp2
    go_ret
    exact ⟨by rw [H.out]; rfl, rfl⟩
  · rw [if_neg h0] at H
    cases he : eaB k with
    | true =>
      rw [he, if_pos rfl] at H
      rw [he] at HE
      go_enter Try.func27, Try.ntmps27
      go_wp2_with fail
      refine (Calls.mono HE.out) ?_
      rintro e _ ⟨rfl, rfl⟩
      go_wp2_with fail
      refine (Calls.mono HR.out) ?_
      rintro e _ ⟨rfl, rfl⟩
      go_wp2
      go_ret
      exact ⟨by rw [H.out]; rfl, rfl⟩
    | false =>
      rw [he, if_neg (by decide)] at H
      rw [he] at HE
      go_enter Try.func27, Try.ntmps27
      go_wp2_with fail
      refine (Calls.mono HE.out) ?_
      rintro e _ ⟨rfl, rfl⟩
      go_wp2
      go_ret
      exact ⟨by rw [H.out]; rfl, rfl⟩
def leB (n : Int) : Bool := n == 1 || n == 5 || n == 7
theorem letsRead_any (g : Nat) (m : Rs) (w : World) (h : (rv g m).Ok w) : Calls Try.prog 28 #[.pointer (some ⟨g, 0, none⟩)] w fun e w' => e = .returned (.bool (leB m.k)) ∧ w = w' := by
  obtain ⟨hB, hW⟩ := h.holds
  have y0 := blk_at hB 0
  have y1 := blk_at hB 1
  have y2 := blk_at hB 2
  simp only [rsC, List.getElem?_cons_zero, List.getElem?_cons_succ] at y0 y1 y2
  clear h y0 y1
  clear hB hW
  generalize m.k = k at *
  by_cases h1 : k = 1
  · subst h1
    go_enter Try.func28, Try.ntmps28
    go_wp2
    go_ret
    exact ⟨rfl, rfl⟩
  by_cases h5 : k = 5
  · subst h5
    go_enter Try.func28, Try.ntmps28
    go_wp2
    go_ret
    exact ⟨rfl, rfl⟩
  go_enter Try.func28, Try.ntmps28
  go_wp2
  go_ret
  exact ⟨rfl, rfl⟩
def hwB (m : Rs) (key : Int) : Bool := if m.k = 0 then false else if eaB m.k = true then key == 0 else key == m.ks.getD m.h.toNat 0
theorem isHeldWith_any (g : Nat) (m : Rs) (key : Int) (w : World) (h : (rv g m).Ok w) : Calls Try.prog 50 #[.pointer (some ⟨g, 0, none⟩), .int .u64 key] w fun e w' => e = .returned (.bool (hwB m key)) ∧ Below w.heap.size w w' := by
  obtain ⟨hB, hW⟩ := h.holds
  have y0 := blk_at hB 0
  have y1 := blk_at hB 1
  have y2 := blk_at hB 2
  simp only [rsC, List.getElem?_cons_zero, List.getElem?_cons_succ] at y0 y1 y2
  have HE : Hid _ := isEach_any m.k w
  obtain ⟨n, hn⟩ : ∃ n : Nat, m.h = n := ⟨m.h.toNat, by have := hW.hh; omega⟩
  have hn16 : n < 16 := by have := hW.hh; omega
  have ck := hW.key hB n hn16
  have q : (n : Int) < 16 := by omega
  have H : Hid (hwB m key = if m.k = 0 then false else if eaB m.k = true then key == 0 else key == m.ks.getD n 0) := by unfold hwB; rw [hn, Int.toNat_natCast]; exact rfl
  rw [hn] at y1
  clear h y0
  clear hB hW
  generalize hwB m key = res at *
  generalize m.k = k at *
  generalize m.ks.getD n 0 = x at *
  by_cases h0 : k = 0
  · rw [if_pos h0] at H
    subst h0
    go_enter Try.func50, Try.ntmps50
    go_wp2
    go_ret
    exact ⟨by rw [H.out]; rfl, by first | exact Below.refl _ _ | exact dnr _ _ _⟩
  · rw [if_neg h0] at H
    cases he : eaB k with
    | true =>
      rw [he, if_pos rfl] at H
      rw [he] at HE
      go_enter Try.func50, Try.ntmps50
      go_wp2_with fail
      refine (Calls.mono HE.out) ?_
      rintro e _ ⟨rfl, rfl⟩
      go_wp2
      go_ret
      exact ⟨by rw [H.out]; rfl, by first | exact Below.refl _ _ | exact dnr _ _ _⟩
    | false =>
      rw [he, if_neg (by decide)] at H
      rw [he] at HE
      go_enter Try.func50, Try.ntmps50
      go_wp2_with fail
      refine (Calls.mono HE.out) ?_
      rintro e _ ⟨rfl, rfl⟩
      go_wp2_with fail
      go_quiet (fail)
      go_wp2
      go_ret
      exact ⟨by rw [H.out]; rfl, by first | exact Below.refl _ _ | exact dnr _ _ _⟩
theorem good_any (w : World) : Calls Try.prog 44 #[] w fun e w' => e = .returned (.agg #[.int .i64 0, .int .i64 0, .int .i64 0, .int .i64 0, .slice none 0 0]) ∧ Below w.heap.size w w' := by
  have b1 : Below w.heap.size w (w.alloc (.cells #[.int .i64 0, .int .i64 0, .int .i64 0, .int .i64 0, .slice none 0 0] 28)) := (Below.refl _ _).alloc (Nat.le_refl _) _
  have A1 := Blk.new' w 28 [.int .i64 0, .int .i64 0, .int .i64 0, .int .i64 0, .slice none 0 0]
  have y0 := blk_at A1 0
  have y1 := blk_at A1 1
  have y2 := blk_at A1 2
  have y3 := blk_at A1 3
  have y4 := blk_at A1 4
  simp only [List.getElem?_cons_zero, List.getElem?_cons_succ] at y0 y1 y2 y3 y4
  have F : Hid _ := And.intro b1 trivial
  clear b1 A1
  go_enter Try.func44, Try.ntmps44
  go_wp2
  generalize w.alloc (.cells #[.int .i64 0, .int .i64 0, .int .i64 0, .int .i64 0, .slice none 0 0] 28) = w1 at *
  refine bodyPost_ret (v := .agg #[.int .i64 0, .int .i64 0, .int .i64 0, .int .i64 0, .slice none 0 0]) (by simp [results, Try.results44, go_sem, y0, y1, y2, y3, y4]) rfl ?_
  exact ⟨rfl, F.out.1⟩
theorem conflict_any (w : World) : Calls Try.prog 25 #[] w fun e w' => e = .returned (.agg #[.int .i64 24, .int .i64 0, .int .i64 0, .int .i64 0, .slice none 0 0]) ∧ Below w.heap.size w w' := by
  have b1 : Below w.heap.size w (w.alloc (.cells #[.int .i64 24, .int .i64 0, .int .i64 0, .int .i64 0, .slice none 0 0] 28)) := (Below.refl _ _).alloc (Nat.le_refl _) _
  have A1 := Blk.new' w 28 [.int .i64 24, .int .i64 0, .int .i64 0, .int .i64 0, .slice none 0 0]
  have y0 := blk_at A1 0
  have y1 := blk_at A1 1
  have y2 := blk_at A1 2
  have y3 := blk_at A1 3
  have y4 := blk_at A1 4
  simp only [List.getElem?_cons_zero, List.getElem?_cons_succ] at y0 y1 y2 y3 y4
  have F : Hid _ := And.intro b1 trivial
  clear b1 A1
  go_enter Try.func25, Try.ntmps25
  go_wp2
  generalize w.alloc (.cells #[.int .i64 24, .int .i64 0, .int .i64 0, .int .i64 0, .slice none 0 0] 28) = w1 at *
  refine bodyPost_ret (v := .agg #[.int .i64 24, .int .i64 0, .int .i64 0, .int .i64 0, .slice none 0 0]) (by simp [results, Try.results25, go_sem, y0, y1, y2, y3, y4]) rfl ?_
  exact ⟨rfl, F.out.1⟩
theorem wrong_any (w : World) : Calls Try.prog 22 #[] w fun e w' => e = .returned (.agg #[.int .i64 2, .int .i64 5, .int .i64 36, .int .i64 0, .slice none 0 0]) ∧ Below w.heap.size w w' := by
  have b1 : Below w.heap.size w (w.alloc (.cells #[.int .i64 2, .int .i64 5, .int .i64 36, .int .i64 0, .slice none 0 0] 28)) := (Below.refl _ _).alloc (Nat.le_refl _) _
  have A1 := Blk.new' w 28 [.int .i64 2, .int .i64 5, .int .i64 36, .int .i64 0, .slice none 0 0]
  have y0 := blk_at A1 0
  have y1 := blk_at A1 1
  have y2 := blk_at A1 2
  have y3 := blk_at A1 3
  have y4 := blk_at A1 4
  simp only [List.getElem?_cons_zero, List.getElem?_cons_succ] at y0 y1 y2 y3 y4
  have F : Hid _ := And.intro b1 trivial
  clear b1 A1
  go_enter Try.func22, Try.ntmps22
  go_wp2
  generalize w.alloc (.cells #[.int .i64 2, .int .i64 5, .int .i64 36, .int .i64 0, .slice none 0 0] 28) = w1 at *
  refine bodyPost_ret (v := .agg #[.int .i64 2, .int .i64 5, .int .i64 36, .int .i64 0, .slice none 0 0]) (by simp [results, Try.results22, go_sem, y0, y1, y2, y3, y4]) rfl ?_
  exact ⟨rfl, F.out.1⟩
theorem wrongRel_any (w : World) : Calls Try.prog 45 #[] w fun e w' => e = .returned (.agg #[.int .i64 2, .int .i64 5, .int .i64 38, .int .i64 4, .slice none 0 0]) ∧ Below w.heap.size w w' := by
  have b1 : Below w.heap.size w (w.alloc (.cells #[.int .i64 2, .int .i64 5, .int .i64 38, .int .i64 4, .slice none 0 0] 28)) := (Below.refl _ _).alloc (Nat.le_refl _) _
  have A1 := Blk.new' w 28 [.int .i64 2, .int .i64 5, .int .i64 38, .int .i64 4, .slice none 0 0]
  have y0 := blk_at A1 0
  have y1 := blk_at A1 1
  have y2 := blk_at A1 2
  have y3 := blk_at A1 3
  have y4 := blk_at A1 4
  simp only [List.getElem?_cons_zero, List.getElem?_cons_succ] at y0 y1 y2 y3 y4
  have F : Hid _ := And.intro b1 trivial
  clear b1 A1
  go_enter Try.func45, Try.ntmps45
  go_wp2
  generalize w.alloc (.cells #[.int .i64 2, .int .i64 5, .int .i64 38, .int .i64 4, .slice none 0 0] 28) = w1 at *
  refine bodyPost_ret (v := .agg #[.int .i64 2, .int .i64 5, .int .i64 38, .int .i64 4, .slice none 0 0]) (by simp [results, Try.results45, go_sem, y0, y1, y2, y3, y4]) rfl ?_
  exact ⟨rfl, F.out.1⟩
end Go.Proofs.Ytlopkfenbeahgaa

/- What turns a state: a key that is taken away, a reservation that ends; the keys as an array. -/
namespace Go.Proofs.Ytlopkfenbeahgaa
open Go.RowKit Go.Shelf
set_option linter.unusedVariables false
set_option linter.unusedSimpArgs false
set_option maxRecDepth 4000

theorem tndr {R : Nat → Prop} {w w' : World} (h : Below w.heap.size w w') : Turned R w w' := (turned_below h).mono (fun _ h => h.elim)
theorem rsC_key (m : Rs) (hf : m.f.length = 16) (i : Nat) (x : Int) : (rsC m).set (19 + i) (.int .u64 x) = rsC { m with ks := m.ks.set i x } := by
  unfold rsC
  rw [show 19 + i = (16 + i) + 1 + 1 + 1 by omega]
  simp only [List.set_cons_succ]
  rw [List.set_append_right _ _ (by rw [List.length_map, hf]; omega), List.length_map, hf, Nat.add_sub_cancel_left, List.map_set]
theorem rsC_flag (m : Rs) (hf : m.f.length = 16) (i : Nat) (hi : i < 16) (b : Bool) : (rsC m).set (3 + i) (.bool b) = rsC { m with f := m.f.set i b } := by
  unfold rsC
  rw [show 3 + i = i + 1 + 1 + 1 by omega]
  simp only [List.set_cons_succ]
  rw [List.set_append_left _ _ (by rw [List.length_map, hf]; exact hi), List.map_set]
def away (m : Rs) (i : Nat) : Rs := { m with ks := m.ks.set i 0, f := m.f.set i true }
def give (m : Rs) (i : Nat) (x : Int) : Rs := { m with ks := m.ks.set i x, f := m.f.set i false }
def hold (m : Rs) (h k : Int) : Rs := { m with h := h, k := k }
def bump (m : Rs) : Rs := { m with gen := (m.gen + 1) % 4294967296 }
theorem getD_set (l : List Int) (i : Nat) (x : Int) (j : Nat) : (l.set i x).getD j 0 = if i = j ∧ i < l.length then x else l.getD j 0 := by
  rw [List.getD, List.getD, List.getElem?_set]
  by_cases h : i = j
  · subst h
    by_cases h2 : i < l.length
    · simp [h2]
    · simp [h2, List.getElem?_eq_none (Nat.le_of_not_lt h2)]
  · simp [h]
theorem set_wf {m : Rs} (h : m.Wf) (i : Nat) (x : Int) (hx : 0 ≤ x ∧ x < 18446744073709551616) (b : Bool) : Rs.Wf { m with ks := m.ks.set i x, f := m.f.set i b } :=
  ⟨by rw [List.length_set]; exact h.fl, by rw [List.length_set]; exact h.kl, h.hh, h.kk, h.gg, fun j => by
    show 0 ≤ (m.ks.set i x).getD j 0 ∧ (m.ks.set i x).getD j 0 < _
    rw [getD_set]; split
    · exact hx
    · exact h.each j⟩
theorem away_wf {m : Rs} (h : m.Wf) (i : Nat) : (away m i).Wf := set_wf h i 0 (by omega) true
theorem give_wf {m : Rs} (h : m.Wf) (i : Nat) (x : Int) (hx : 0 ≤ x ∧ x < 18446744073709551616) : (give m i x).Wf := set_wf h i x hx false
theorem hold_wf {m : Rs} (h : m.Wf) (n k : Int) (hn : 0 ≤ n ∧ n < 16) (hk : 0 ≤ k ∧ k ≤ 8) : (hold m n k).Wf := ⟨h.fl, h.kl, hn, hk, h.gg, h.each⟩
theorem bump_wf {m : Rs} (h : m.Wf) : (bump m).Wf := ⟨h.fl, h.kl, h.hh, h.kk, by show 0 ≤ (m.gen + 1) % 4294967296 ∧ (m.gen + 1) % 4294967296 < 4294967296; omega, h.each⟩
theorem rv_step {w w' : World} {g : Nat} {m m' : Rs} (ht : Turned (fun k => k = g) w w') (hB : Blk w' g 54 (rsC m')) (hw : m'.Wf) : Step w w' (rv g m) (rv g m') :=
  ⟨ht.mono (fun k e => by simp [rv, e]), rv_ok hB hw, fun k hk => .inl hk, (fun k hk => by cases hk)⟩
set_option maxHeartbeats 2000000 in
theorem takeKey_any (g : Nat) (m : Rs) (i : Nat) (w : World) (h : (rv g m).Ok w) (hi : i < 16) : Calls Try.prog 49 #[.pointer (some ⟨g, 0, none⟩), .int .i64 i] w fun e w' => e = .returned (.tuple #[]) ∧ Step w w' (rv g m) (rv g (away m i)) := by
  obtain ⟨hB, hW⟩ := h.holds
  have q : (i : Int) < 16 := by omega
  clear h
  go_enter Try.func49, Try.ntmps49
  refine wp_region_held_drew (S := fun W => Turned (fun k => k = g) w W) (by kernel_rfl) (tndr (Below.refl _ _).drew) (fun hS => ?_)
  refine any_take (i := 0) (v := ?_) rfl (by kernel_rfl) (by kernel_rfl) (by kernel_rfl) (by exact fun _ _ _ h => h) (by rfl) ?_ hS ?_
  rotate_left
  · ((intro w hSw; (try dsimp only at hSw); go_simp) <;> with_reducible rfl)
  (try simp only [Act.put, List.setIfInBounds_toArray, List.set_cons_zero, List.set_cons_succ])
  refine any_take (i := 1) (v := ?_) rfl (by kernel_rfl) (by kernel_rfl) (by kernel_rfl) (by exact fun _ _ _ h => h) (by rfl) ?_ hS ?_
  rotate_left
  · ((intro w hSw; (try dsimp only at hSw); go_simp) <;> with_reducible rfl)
  (try simp only [Act.put, List.setIfInBounds_toArray, List.set_cons_zero, List.set_cons_succ])
  refine any_take (i := 2) (v := ?_) rfl (by kernel_rfl) (by kernel_rfl) (by kernel_rfl) (by exact fun _ _ _ h => h) (by rfl) ?_ hS ?_
  rotate_left
  · ((intro w hSw; (try dsimp only at hSw); go_simp) <;> with_reducible rfl)
  (try simp only [Act.put, List.setIfInBounds_toArray, List.set_cons_zero, List.set_cons_succ])
  refine any_take (i := 3) (v := ?_) rfl (by kernel_rfl) (by kernel_rfl) (by kernel_rfl) (by exact fun _ _ _ h => h) (by rfl) ?_ hS ?_
  rotate_left
  · ((intro w hSw; (try dsimp only at hSw); go_simp) <;> with_reducible rfl)
  (try simp only [Act.put, List.setIfInBounds_toArray, List.set_cons_zero, List.set_cons_succ])
  refine any_take (i := 4) (v := ?_) rfl (by kernel_rfl) (by kernel_rfl) (by kernel_rfl) (by exact fun _ _ _ h => h) (by rfl) ?_ hS ?_
  rotate_left
  · ((intro w hSw; (try dsimp only at hSw); go_simp) <;> with_reducible rfl)
  (try simp only [Act.put, List.setIfInBounds_toArray, List.set_cons_zero, List.set_cons_succ])
  refine any_take (i := 5) (v := ?_) rfl (by kernel_rfl) (by kernel_rfl) (by kernel_rfl) (by exact fun _ _ _ h => h) (by rfl) ?_ hS ?_
  rotate_left
  · ((intro w hSw; (try dsimp only at hSw); go_simp) <;> with_reducible rfl)
  (try simp only [Act.put, List.setIfInBounds_toArray, List.set_cons_zero, List.set_cons_succ])
  refine any_take (i := 6) (v := ?_) rfl (by kernel_rfl) (by kernel_rfl) (by kernel_rfl) (by exact fun _ _ _ h => h) (by rfl) ?_ hS ?_
  rotate_left
  · ((intro w hSw; (try dsimp only at hSw); go_simp) <;> with_reducible rfl)
  (try simp only [Act.put, List.setIfInBounds_toArray, List.set_cons_zero, List.set_cons_succ])
  refine any_take (i := 8) (v := ?_) rfl (by kernel_rfl) (by kernel_rfl) (by kernel_rfl) (by exact fun _ _ _ h => h) (by rfl) ?_ hS ?_
  rotate_left
  · ((intro w hSw; (try dsimp only at hSw); go_simp) <;> with_reducible rfl)
  (try simp only [Act.put, List.setIfInBounds_toArray, List.set_cons_zero, List.set_cons_succ])
  refine any_take (i := 9) (v := ?_) rfl (by kernel_rfl) (by kernel_rfl) (by kernel_rfl) (by exact fun _ _ _ h => h) (by rfl) ?_ hS ?_
  rotate_left
  · ((intro w hSw; (try dsimp only at hSw); go_simp) <;> with_reducible rfl)
  (try simp only [Act.put, List.setIfInBounds_toArray, List.set_cons_zero, List.set_cons_succ])
  have B0 : Blk w.drew g 54 (rsC m) := hB.laterB (Below.refl _ _).drew
  generalize w.drew = W0 at *
  have hc := hW.key B0 i hi
  have hz := blk_frozen B0 (19 + i)
  refine any_on (i := 7) rfl (by kernel_rfl) (fun K hK => ?_)
  go_simp
  have B1 := B0.set (19 + i) (.int .u64 0)
  rw [rsC_key m hW.fl] at B1
  clear hc hz
  refine hK.out _ _ (hS.trans ((turned_set _ g (19 + i) _).mono (fun k e => .inl e))) (fun hS => ?_)
  clear hK K
  refine any_take (i := 10) (v := ?_) rfl (by kernel_rfl) (by kernel_rfl) (by kernel_rfl) (by exact fun _ _ _ h => h) (by rfl) ?_ hS ?_
  rotate_left
  · ((intro w hSw; (try dsimp only at hSw); go_simp) <;> with_reducible rfl)
  (try simp only [Act.put, List.setIfInBounds_toArray, List.set_cons_zero, List.set_cons_succ])
  have hc := Rs.Wf.flag (m := { m with ks := m.ks.set i 0 }) ⟨hW.fl, by rw [List.length_set]; exact hW.kl, hW.hh, hW.kk, hW.gg, (away_wf hW i).each⟩ B1 i hi
  have hz := blk_frozen B1 (3 + i)
  refine any_on (i := 11) rfl (by kernel_rfl) (fun K hK => ?_)
  go_simp
  have B2 := B1.set (3 + i) (.bool true)
  rw [rsC_flag { m with ks := m.ks.set i 0 } hW.fl i hi] at B2
  clear hc hz
  refine hK.out _ _ (hS.trans ((turned_set _ g (3 + i) _).mono (fun k e => .inl e))) (fun hS => ?_)
  clear hK K
  refine wpAnyH_done (by kernel_rfl) ?_ _
  have F : Hid _ := rv_step (m := m) hS B2 (away_wf hW i)
  clear hS B0 B1 B2 hB
  go_wp2
  go_end0
  exact ⟨rfl, F.out⟩
set_option maxHeartbeats 2000000 in
theorem end_any (g : Nat) (m : Rs) (w : World) (h : (rv g m).Ok w) : Calls Try.prog 47 #[.pointer (some ⟨g, 0, none⟩)] w fun e w' => e = .returned (.tuple #[]) ∧ Step w w' (rv g m) (rv g (hold m 0 0)) := by
  obtain ⟨hB, hW⟩ := h.holds
  have y1 := blk_at hB 1
  have y2 := blk_at hB 2
  have z1 := blk_frozen hB 1
  have z2 := blk_frozen hB 2
  simp only [rsC, List.getElem?_cons_zero, List.getElem?_cons_succ] at y1 y2
  have B2 := (hB.set 1 (.int .i64 0)).set 2 (.int .i64 0)
  simp only [rsC, List.set_cons_zero, List.set_cons_succ] at B2
  have hT : Turned (fun k => k = g) w ((w.setCell ⟨g, 1, none⟩ (.int .i64 0)).setCell ⟨g, 2, none⟩ (.int .i64 0)) := (turned_set w g 1 _).trans ((turned_set _ g 2 _).mono (fun k e => .inl e))
  have F : Hid _ := rv_step (m := m) (m' := hold m 0 0) hT B2 (hold_wf hW 0 0 (by omega) (by omega))
  clear h hB B2 hT
  go_enter Try.func47, Try.ntmps47
  go_wp2
  go_end0
  exact ⟨rfl, F.out⟩
end Go.Proofs.Ytlopkfenbeahgaa
