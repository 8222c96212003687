/- What ResvRefused keeps between its calls: bytes, the reply's box, a state with the notes of its last command. -/
import Derived.Test.YtlopkfenbeahgaaXRv27
import Derived.Test.YtlopkfenbeahgaaXRv28
namespace Go.Proofs.Ytlopkfenbeahgaa
open Go.RowKit Go.Shelf
set_option linter.unusedVariables false
set_option linter.unusedSimpArgs false
set_option maxRecDepth 4000

theorem own13_strs {w : World} {base : Nat} {v : Value} {l : List (BitVec 8)} (h : Own w base v l) : ∃ a len cap, v = .slice a len cap ∧ ∀ X, Below w.heap.size w X → (convert 25 9 (.slice a len cap)).run Try.prog X = .ok (.string (str l)) X := by
  obtain ⟨a, cap, hv, _, _, hr, _, _⟩ := h.open
  exact ⟨a, _, cap, hv, fun X hX => (hr.later hX).str _ _ rfl⟩
/-- bytes of the call's own -/
def rwOb (v : Value) (l : List (BitVec 8)) : Ob := ⟨v.ownBlock.toList, [], fun w => Own w 0 v l⟩
theorem rwOb_ok {w : World} {base : Nat} {v : Value} {l : List (BitVec 8)} (h : Own w base v l) : (rwOb v l).Ok w :=
  ⟨h.lower (Nat.zero_le _), (fun k hk => by
    rcases hk with hk | hk
    · exact (World.ownsRow.lt h k (by simpa [rwOb] using hk)).2
    · cases hk), (fun k _ hv => by cases hv), fun w1 w2 hs h => Own.same h (fun k hk => hs k (.inl (by simp [rwOb, hk])))⟩
theorem rwOb_new {w : World} {base : Nat} {v : Value} {l : List (BitVec 8)} (h : Own w base v l) : ∀ k, k ∈ (rwOb v l).W ∨ k ∈ (rwOb v l).V → base ≤ k := fun k hk => by
  rcases hk with hk | hk
  · exact (World.ownsRow.lt h k (by simpa [rwOb] using hk)).1
  · cases hk
/-- the reply's box -/
def rpOb (b : Nat) (vs : List Value) : Ob := ⟨[b], [], fun w => Blk w b 28 vs⟩
theorem rpOb_ok {w : World} {b : Nat} {vs : List Value} (h : Blk w b 28 vs) : (rpOb b vs).Ok w :=
  ⟨h, (fun k hk => by rcases hk with hk | hk; simp only [rpOb, List.mem_singleton] at hk; subst hk; exact h.lt; cases hk), (fun k _ hv => by cases hv), fun w1 w2 hs h => by
    have e := hs b (.inl (by simp [rpOb]))
    have h' : Blk w1 b _ _ := h
    show Blk w2 b _ _
    unfold Blk at *; rw [e]; exact h'⟩
theorem rp5_step {W : World} {b : Nat} {x0 x1 x2 x3 x4 : Value} (h : (rpOb b [x0, x1, x2, x3, x4]).Ok W) (r0 r1 r2 r3 : Int) : Step W (rp5 W b r0 r1 r2 r3) (rpOb b [x0, x1, x2, x3, x4]) (rpOb b [.int .i64 r0, .int .i64 r1, .int .i64 r2, .int .i64 r3, .slice none 0 0]) := by
  have s := rp5_blk (W := W) h.holds r0 r1 r2 r3
  exact ⟨s.2.mono (fun k e => by simp [rpOb, e]), rpOb_ok s.1, fun k hk => .inl hk, (fun k hk => by cases hk)⟩
/-- a state, and the notes of a command -/
def rvN (g : Nat) (m : Rs) (v : Value) (L : List (Int × Int)) : Ob := ⟨g :: v.ownBlock.toList, [], fun w => (Blk w g 54 (rsC m) ∧ m.Wf) ∧ NtOwn w v L⟩
theorem rvN_ok {w : World} {g : Nat} {m : Rs} {v : Value} {L : List (Int × Int)} (h : (rv g m).Ok w) (hN : NtOwn w v L) : (rvN g m v L).Ok w :=
  ⟨⟨h.holds, hN⟩, (fun k hk => by
    rcases hk with hk | hk
    · rcases List.mem_cons.1 hk with rfl | hk
      · exact h.holds.1.lt
      · exact hN.lt k (by simpa using hk)
    · cases hk), (fun k _ hv => by cases hv), fun w1 w2 hs h => by
    obtain ⟨⟨h1, h2⟩, h3⟩ := h
    refine ⟨⟨?_, h2⟩, h3.same (fun k hk => hs k (.inl (by simp [rvN, hk])))⟩
    have e := hs g (.inl (by simp [rvN]))
    unfold Blk at *; rw [e]; exact h1⟩
theorem rvN_rv {w : World} {g : Nat} {m : Rs} {v : Value} {L : List (Int × Int)} (h : (rvN g m v L).Ok w) : (rv g m).Ok w := rv_ok h.holds.1.1 h.holds.1.2
theorem rvN_drop {w : World} {g : Nat} {m : Rs} {v : Value} {L : List (Int × Int)} (h : (rvN g m v L).Ok w) : Step w w (rvN g m v L) (rv g m) :=
  ⟨⟨rfl, rfl, rfl, Nat.le_refl _, fun _ _ _ => rfl⟩, rvN_rv h, (fun k hk => .inl (by simp only [rv, List.mem_singleton] at hk; subst hk; simp [rvN])), (fun k hk => by cases hk)⟩
theorem doR_any {g : Nat} {m m' : Rs} {n : Int} {c : Cm} {r0 r1 r2 r3 : Int} {L : List (Int × Int)} (hD : doM m n c = ((r0, r1, r2, r3), m', L)) (w : World) (h : (rv g m).Ok w) (hnw : 0 ≤ c.nw ∧ c.nw < 18446744073709551616) : Calls Try.prog 7 #[.pointer (some ⟨g, 0, none⟩), .int .i64 n, .agg #[.int .i64 c.a, .int .u64 c.key, .int .u64 c.nw, .int .i64 c.t]] w fun e w' => ∃ a cp, e = .returned (.tuple #[.agg #[.int .i64 r0, .int .i64 r1, .int .i64 r2, .int .i64 r3, .slice none 0 0], .slice a L.length cp]) ∧ Step w w' (rv g m) (rvN g m' (.slice a L.length cp) L) := by
  have H := doN_any g m n c w h hnw
  rw [hD] at H
  refine H.mono ?_
  rintro e w' ⟨v, rfl, hN, t⟩
  simp only at hN t
  obtain ⟨a, cp, rfl, -, -⟩ := hN.own.open
  exact ⟨a, cp, rfl, t.tn.mono (fun k e => by simpa [rv] using e), rvN_ok t.ok hN.own, (fun k hk => by
    rcases List.mem_cons.1 hk with rfl | hk
    · exact .inl (by simp [rv])
    · exact .inr (hN.new k (by simpa using hk))), (fun k hk => by cases hk)⟩
end Go.Proofs.Ytlopkfenbeahgaa

