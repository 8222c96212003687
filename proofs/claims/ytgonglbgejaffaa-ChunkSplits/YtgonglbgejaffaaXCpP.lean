/- Both Splits, yes or no. -/
import Derived.Test.YtgonglbgejaffaaXCpN
import Derived.Test.YtgonglbgejaffaaXCpJ
namespace Go.Proofs.Ytgonglbgejaffaa
open Go.RowKit Go.Shelf
set_option linter.unusedVariables false
set_option linter.unusedSimpArgs false
set_option maxRecDepth 4000

/-- how many pieces Split gives -/
def nS (id : Int) (n : Nat) (s : Int) : Nat := if idB id = true ∧ 1 ≤ s ∧ s ≤ 4096 ∧ n ≤ 65536 ∧ npc n s.toNat ≤ 256 then npc n s.toNat else 0
theorem nS_256 (id : Int) (n : Nat) (s : Int) : nS id n s ≤ 256 := by
  unfold nS; split
  · rename_i h; exact h.2.2.2.2
  · omega
theorem LsR.later {w w' : World} {a : Option Addr} {ls : List (List (BitVec 8))} (h : LsR w a ls) (hb : Below w.heap.size w w') : LsR w' a ls := fun i hi => by
  obtain ⟨b, off, x, c, e, h1, h2⟩ := h i hi
  exact ⟨b, off, x, c, e, cell_later7 hb h1, h2.later hb⟩
theorem LsR.none (w : World) (a : Option Addr) : LsR w a [] := fun i hi => by cases hi
/-- the pieces that the program made, from i on still whole -/
def SpN (w : World) (base : Nat) (a : Option Addr) (id : Int) (b : List (BitVec 8)) (s : Int) (n i : Nat) : Prop :=
  n = 0 ∨ ((npc b.length s.toNat ≤ 256 ∧ s.toNat ≤ 4096) ∧ ∃ D vs, a = some ⟨D, 0, none⟩ ∧ SpI w base D vs id b s.toNat n i)
theorem SpI.later {w w' : World} {base D : Nat} {vs : List Value} {id : Int} {b : List (BitVec 8)} {s n i : Nat} (h : SpI w base D vs id b s n i) (hb : Below w.heap.size w w') : SpI w' base D vs id b s n i :=
  ⟨h.blk.laterB hb, fun j h1 h2 => by obtain ⟨u, h3, h4⟩ := h.each j h1 h2; exact ⟨u, h3, h4.later hb⟩⟩
theorem SpN.later {w w' : World} {base : Nat} {a : Option Addr} {id : Int} {b : List (BitVec 8)} {s : Int} {n i : Nat} (h : SpN w base a id b s n i) (hb : Below w.heap.size w w') : SpN w' base a id b s n i := by
  rcases h with h | ⟨h1, D, vs, h2, h3⟩
  · exact .inl h
  · exact .inr ⟨h1, D, vs, h2, h3.later hb⟩
theorem split2_any (id : Int) (a : Option Addr) (cap : Nat) (b : List (BitVec 8)) (s : Int) (w : World) (hb9 : b.length ≤ 140737488351232) (hs64 : -9223372036854775808 ≤ s ∧ s ≤ 9223372036854775807) (hc : b.length ≤ cap) (hr : Row w a b) (hnil : a = none → cap = 0) :
    Calls Try.prog 6 #[.int .i64 id, .slice a b.length cap, .int .i64 s] w fun e w' => ∃ x c, e = .returned (.tuple #[.slice x (nS id b.length s) c, .int .i64 (splE id b.length s)]) ∧ SpN w' w.heap.size x id b s (nS id b.length s) 0 ∧ LsR w' x (splL id b s.toNat (nS id b.length s)) ∧ Below w.heap.size w w' := by
  by_cases h : idB id = true ∧ 1 ≤ s ∧ s ≤ 4096 ∧ b.length ≤ 65536 ∧ npc b.length s.toNat ≤ 256
  · have hN : nS id b.length s = npc b.length s.toNat := by unfold nS; rw [if_pos h]
    have hE : splE id b.length s = 0 := by unfold splE; rw [if_pos ⟨h.1, h.2.1, h.2.2.1⟩, if_pos ⟨h.2.2.2.1, h.2.2.2.2⟩]
    obtain ⟨n, rfl⟩ : ∃ n : Nat, s = n := ⟨s.toNat, by have := h.2.1; omega⟩
    rw [hN, hE, Int.toNat_natCast]
    rw [Int.toNat_natCast] at h
    refine (split_yes id a cap b n w h.1 (by omega) (by omega) h.2.2.2.1 h.2.2.2.2 hc hr hnil).mono ?_
    rintro e w' ⟨D, vs, rfl, hl, hP, hb⟩
    refine ⟨_, _, rfl, .inr ⟨⟨by rw [Int.toNat_natCast]; exact h.2.2.2.2, by omega⟩, D, vs, rfl, ?_, fun j _ hj => ?_⟩, fun i hi => ?_, hb⟩
    · exact hP.blk
    · obtain ⟨v, hv, ho⟩ := hP.each j (by rw [splL_len]; exact hj)
      rw [splL_at] at ho
      rw [Int.toNat_natCast]
      exact ⟨v, hv, ho⟩
    · obtain ⟨v, hv, ho⟩ := hP.each i hi
      obtain ⟨x, c, rfl, -, -, hr, -⟩ := ho.open
      exact ⟨D, 0, x, c, rfl, by rw [Nat.zero_add, blk_at hP.blk i]; exact hv, hr⟩
  · have hN : nS id b.length s = 0 := by unfold nS; rw [if_neg h]
    rw [hN]
    refine (split_no2 id a cap b s w hb9 h hs64).mono ?_
    rintro e w' ⟨rfl, rfl⟩
    exact ⟨_, _, rfl, .inl rfl, LsR.none _ _, Below.refl _ _⟩
theorem rsplit2_any (id : Int) (a : Option Addr) (cap : Nat) (b : List (BitVec 8)) (s : Int) (w : World) (hb9 : b.length ≤ 140737488351232) (hs64 : -9223372036854775808 ≤ s ∧ s ≤ 9223372036854775807) (hc : b.length ≤ cap) (hr : Row w a b) (hnil : a = none → cap = 0) :
    Calls Try.prog 7 #[.int .i64 id, .slice a b.length cap, .int .i64 s] w fun e w' => ∃ x c, e = .returned (.tuple #[.slice x (nS id b.length s) c, .int .i64 (splE id b.length s)]) ∧ LsR w' x (splL id b s.toNat (nS id b.length s)) ∧ Below w.heap.size w w' := by
  by_cases h : idB id = true ∧ 1 ≤ s ∧ s ≤ 4096 ∧ b.length ≤ 65536 ∧ npc b.length s.toNat ≤ 256
  · have hN : nS id b.length s = npc b.length s.toNat := by unfold nS; rw [if_pos h]
    have hE : splE id b.length s = 0 := by unfold splE; rw [if_pos ⟨h.1, h.2.1, h.2.2.1⟩, if_pos ⟨h.2.2.2.1, h.2.2.2.2⟩]
    obtain ⟨n, rfl⟩ : ∃ n : Nat, s = n := ⟨s.toNat, by have := h.2.1; omega⟩
    rw [hN, hE, Int.toNat_natCast]
    rw [Int.toNat_natCast] at h
    refine (rsplit_yes id a cap b n w h.1 (by omega) (by omega) h.2.2.2.1 h.2.2.2.2 hc hr hnil).mono ?_
    rintro e w' ⟨v, vs, rfl, hL, hb⟩
    obtain ⟨x, c, rfl, hR⟩ := hL.reads
    rw [splL_len]
    exact ⟨_, _, rfl, hR, hb⟩
  · have hN : nS id b.length s = 0 := by unfold nS; rw [if_neg h]
    rw [hN]
    refine (rsplit_no id a cap b s w hb9 h hs64).mono ?_
    rintro e w' ⟨rfl, rfl⟩
    exact ⟨_, _, rfl, LsR.none _ _, Below.refl _ _⟩
/-- the piece i is written over -/
theorem spoil7_any {w1 wr : World} {x : Option Addr} {id : Int} {b : List (BitVec 8)} {s : Int} {n i : Nat} (h : SpN wr w1.heap.size x id b s n i) (hn : n ≤ 256) (hi : i < n) (hb : Below w1.heap.size w1 wr) :
    ∃ D v m c, x = some ⟨D, 0, none⟩ ∧ wr.cell? ⟨D, i, none⟩ = some (.slice v m c) ∧ Calls Try.prog 10 #[.slice v m c] wr fun e w' => e = .returned (.tuple #[]) ∧ SpN w' w1.heap.size x id b s n (i + 1) ∧ Below w1.heap.size w1 w' := by
  rcases h with h | ⟨h1, D, vs, rfl, h3⟩
  · omega
  · obtain ⟨u, hu, ho⟩ := h3.each i (Nat.le_refl _) hi
    obtain ⟨v, c, rfl, -, -, -, -⟩ := ho.open
    refine ⟨D, v, _, c, rfl, by rw [blk_at h3.blk i]; exact hu, ?_⟩
    refine (Spoil_own _ _ _ wr ho (by rw [piece_len]; unfold chk; rw [List.length_take]; omega)).mono ?_
    rintro e w' ⟨rfl, hg⟩
    exact ⟨rfl, .inr ⟨h1, D, vs, rfl, h3.step h1.1 hn hi hu hg⟩, hb.grown hg hb.size (fun k hk => (World.ownsRow.lt ho k hk).1)⟩
end Go.Proofs.Ytgonglbgejaffaa

