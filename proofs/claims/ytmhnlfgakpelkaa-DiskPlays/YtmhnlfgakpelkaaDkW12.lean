/- One call of a disk, whatever it is. -/
import Derived.Test.YtmhnlfgakpelkaaDkW11
import Derived.Test.YtmhnlfgakpelkaaDkOps
import Derived.Test.YtmhnlfgakpelkaaDkK
namespace Go.Proofs.Ytmhnlfgakpelkaa
open Go.RowKit
set_option linter.unusedVariables false

/-- a write: what the disk is behind it, the error -/
def wrD (d : Dm) (n : Int) (lb : List (BitVec 8)) : Dm × Int := if d.gone then (d, 21) else if hasB d.n n (secs lb.length : Nat) then ({ d with gs := d.gs ++ [(n.toNat, lb)] }, 0) else (d, 1)
def flD (d : Dm) : Dm × Int := if d.gone then (d, 21) else if d.bad then ({ d with gone := true }, 20) else (⟨nowOf d.safe d.gs, [], false, false⟩, 0)
def dmDo (d : Dm) (k n : Int) (lb : List (BitVec 8)) (il : List Int) : Dm × Int :=
  if k = 0 ∨ k = 1 then wrD d n lb else if k = 2 then flD d else if k = 3 then ({ d with bad := true }, 0) else if k = 4 then (⟨crashed d.safe d.gs il, [], false, false⟩, 0) else (d, 0)

theorem hasB_at {d : Dm} {n : Int} {lb : List (BitVec 8)} (h : hasB d.n n (secs lb.length : Nat) = true) : 1 ≤ lb.length ∧ n = (n.toNat : Int) ∧ n.toNat + secs lb.length ≤ d.n := by
  obtain ⟨x, y, h1, h2, h3, h4⟩ := hasB_yes h
  have h5 : secs lb.length = y := by omega
  refine ⟨?_, by omega, by omega⟩
  rcases Nat.lt_or_ge 0 lb.length with e | e
  · exact e
  · have : lb.length = 0 := by omega
    rw [this] at h5
    have : secs 0 = 0 := by decide
    omega
theorem wrD_wf {d : Dm} (h : d.Wf) (n : Int) (lb : List (BitVec 8)) : (wrD d n lb).1.Wf := by
  unfold wrD
  split
  · exact h
  · split
    · rename_i hb
      obtain ⟨h1, -, h3⟩ := hasB_at hb
      exact h.write _ _ h1 h3
    · exact h
theorem flD_wf {d : Dm} (h : d.Wf) : (flD d).1.Wf := by
  unfold flD
  split
  · exact h
  · split
    · exact ⟨h.size, h.fits⟩
    · exact h.flush
theorem dmDo_wf {d : Dm} (h : d.Wf) (k n : Int) (lb : List (BitVec 8)) (il : List Int) : (dmDo d k n lb il).1.Wf := by
  unfold dmDo
  split
  · exact wrD_wf h n lb
  · split
    · exact flD_wf h
    · split
      · exact ⟨h.size, h.fits⟩
      · split
        · exact h.crash il
        · exact h
theorem wrD_len (d : Dm) (n : Int) (lb : List (BitVec 8)) : (wrD d n lb).1.gs.length ≤ d.gs.length + 1 := by
  unfold wrD
  split
  · exact Nat.le_succ _
  · split
    · simp
    · exact Nat.le_succ _
theorem dmDo_len (d : Dm) (k n : Int) (lb : List (BitVec 8)) (il : List Int) : (dmDo d k n lb il).1.gs.length ≤ d.gs.length + 1 := by
  unfold dmDo flD
  split
  · exact wrD_len d n lb
  · split
    · split
      · exact Nat.le_succ _
      · split
        · exact Nat.le_succ _
        · exact Nat.zero_le _
    · split
      · exact Nat.le_succ _
      · split
        · exact Nat.zero_le _
        · exact Nat.le_succ _
theorem wrD_n {d : Dm} (n : Int) (lb : List (BitVec 8)) : (wrD d n lb).1.safe = d.safe := by
  unfold wrD
  split
  · rfl
  · split <;> rfl
theorem dmDo_size {d : Dm} (h : d.Wf) (k n : Int) (lb : List (BitVec 8)) (il : List Int) : (dmDo d k n lb il).1.safe.length = d.safe.length := by
  unfold dmDo flD
  split
  · rw [wrD_n]
  · split
    · split
      · rfl
      · split
        · rfl
        · exact h.now
    · split
      · rfl
      · split
        · exact crashTo_length h.fits il _ (Nat.le_refl _)
        · rfl

theorem Write_any (g : Nat) (p : Pl) (d : Dm) (n : Int) (ab : Option Addr) (len cap : Nat) (lb : List (BitVec 8)) (w : World) (h : (dk g p d).Ok w) (hw : d.Wf) (hl : lb.length = len) (hr : Row w ab lb) (hle : len ≤ cap) (hn : ab = none → cap = 0) (hm : len ≤ 140737488355328) (hnn : -9223372036854775808 ≤ n ∧ n ≤ 9223372036854775807) (hgs : d.gs.length ≤ 1000000) :
    Calls Try.prog 19 #[.pointer (some ⟨g, 0, none⟩), .int .i64 n, .slice ab len cap] w fun e w' => ∃ p', e = .returned (.int .i64 (wrD d n lb).2) ∧ Step w w' (dk g p d) (dk g p' (wrD d n lb).1) := by
  subst hl
  cases hd : d.gone with
  | true =>
    have e : wrD d n lb = (d, 21) := by unfold wrD; rw [if_pos hd]
    rw [e]
    refine (Write_dead g p d n _ w h hd).mono ?_
    rintro e w' ⟨rfl, rfl⟩
    exact ⟨p, rfl, Step.refl h⟩
  | false =>
    cases hb : hasB d.n n (secs lb.length : Nat) with
    | false =>
      have e : wrD d n lb = (d, 1) := by unfold wrD; rw [hd, hb]; rfl
      rw [e]
      refine (Write_arg g p d n ab lb.length cap w h hw hd hm hnn hb).mono ?_
      rintro e w' ⟨rfl, rfl⟩
      exact ⟨p, rfl, Step.refl h⟩
    | true =>
      have e : wrD d n lb = ({ d with gs := d.gs ++ [(n.toNat, lb)] }, 0) := by unfold wrD; rw [hd, hb]; rfl
      rw [e]
      obtain ⟨h1, h2, h3⟩ := hasB_at hb
      have := Write_ok g p d n.toNat ab cap lb w h hw hd hr hle hn h1 h3 hgs
      rw [← h2] at this
      exact this
theorem Flush_any (g : Nat) (p : Pl) (d : Dm) (w : World) (h : (dk g p d).Ok w) (hw : d.Wf) (hgs : d.gs.length ≤ 1000000) :
    Calls Try.prog 25 #[.pointer (some ⟨g, 0, none⟩)] w fun e w' => ∃ p', e = .returned (.int .i64 (flD d).2) ∧ Step w w' (dk g p d) (dk g p' (flD d).1) := by
  cases hd : d.gone with
  | true =>
    have e : flD d = (d, 21) := by unfold flD; rw [if_pos hd]
    rw [e]
    refine (Flush_dead g p d w h hd).mono ?_
    rintro e w' ⟨rfl, rfl⟩
    exact ⟨p, rfl, Step.refl h⟩
  | false =>
    cases hb : d.bad with
    | true =>
      have e : flD d = ({ d with gone := true }, 20) := by unfold flD; rw [hd, hb]; rfl
      rw [e]
      refine (Flush_bad g p d w h hd hb).mono ?_
      rintro e w' ⟨rfl, st⟩
      exact ⟨p, rfl, st⟩
    | false =>
      have e : flD d = (⟨nowOf d.safe d.gs, [], false, false⟩, 0) := by unfold flD; rw [hd, hb]; rfl
      rw [e]
      refine (Flush_ok g p d w h hw hd hb hgs).mono ?_
      rintro e w' ⟨rfl, st⟩
      exact ⟨_, rfl, st⟩
end Go.Proofs.Ytmhnlfgakpelkaa
