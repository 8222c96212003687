/- A world in memory: letters, cuts, clocks; what is told of it. -/
import Derived.Test.YtfcaaljehhibgaaXDkW4
import Derived.Test.YtfcaaljehhibgaaXDraw
import Derived.Test.YtfcaaljehhibgaaXMp
import Derived.Laws.LoneSync
import Derived.Test.YtfcaaljehhibgaaXDkW1
namespace Go.Proofs.Ytfcaaljehhibgaa
open Go.RowKit
set_option linter.unusedVariables false

theorem step_of {w w' : World} {o o' : Ob} (ht : Turned (· ∈ o.W) w w') (hP : o'.P w') (hst : ∀ w1 w2 : World, (∀ k, k ∈ o'.W ∨ k ∈ o'.V → w2.heap[k]? = w1.heap[k]?) → o'.P w1 → o'.P w2)
    (hW : ∀ k ∈ o'.W, (k ∈ o.W ∨ w.heap.size ≤ k) ∧ k < w'.heap.size) (hV : ∀ k ∈ o'.V, (k ∈ o.V ∨ w.heap.size ≤ k) ∧ k < w'.heap.size) (ap : ∀ k ∈ o'.W, k ∉ o'.V) : Step w w' o o' :=
  ⟨ht, ⟨hP, fun k hk => hk.elim (fun h => (hW k h).2) (fun h => (hV k h).2), ap, hst⟩, fun k hk => (hW k hk).1, fun k hk => (hV k hk).1.elim (fun h => .inr (.inl h)) (fun h => .inr (.inr h))⟩

abbrev Lt := Nat × Nat × List (BitVec 8)
/-- letters as cells -/
def LsAt (V : List Nat) (w : World) : List Lt → List Value → Prop
  | [], [] => True
  | g :: gs, x :: y :: u :: vs => x = .int .i64 g.1 ∧ y = .int .i64 g.2.1 ∧ (∃ a cap, u = .slice a g.2.2.length cap ∧ g.2.2.length ≤ cap ∧ Row w a g.2.2 ∧ (a = none → cap = 0) ∧ ∀ y, a = some y → y.block ∈ V) ∧ LsAt V w gs vs
  | _, _ => False
theorem LsAt.length {V : List Nat} {w : World} {gs : List Lt} {vs : List Value} (h : LsAt V w gs vs) : vs.length = gs.length * 3 := by
  induction gs generalizing vs with
  | nil => match vs, h with | [], _ => rfl
  | cons g gs ih =>
    match vs, h with
    | x :: y :: u :: vs, ⟨_, _, _, h6⟩ => have := ih h6; simp only [List.length_cons]; omega
theorem LsAt.get {V : List Nat} {w : World} {gs : List Lt} {vs : List Value} (h : LsAt V w gs vs) (i : Nat) (hi : i < gs.length) :
    ∃ a cap, vs[i * 3]? = some (.int .i64 gs[i].1) ∧ vs[i * 3 + 1]? = some (.int .i64 gs[i].2.1) ∧ vs[i * 3 + 2]? = some (.slice a gs[i].2.2.length cap) ∧ gs[i].2.2.length ≤ cap ∧ Row w a gs[i].2.2 ∧ (a = none → cap = 0) ∧ ∀ y, a = some y → y.block ∈ V := by
  induction gs generalizing vs i with
  | nil => simp at hi
  | cons g gs ih =>
    match vs, h with
    | x :: y :: u :: vs, ⟨h1, h1', ⟨a, cap, h2, h3, h4, h5⟩, h6⟩ =>
      cases i with
      | zero => subst h1; subst h1'; subst h2; exact ⟨a, cap, rfl, rfl, rfl, h3, h4, h5⟩
      | succ i =>
        obtain ⟨a, cap, k1, k2, k2', k3⟩ := ih h6 i (by simpa using hi)
        refine ⟨a, cap, ?_, ?_, ?_, k3⟩
        · rw [show (i + 1) * 3 = i * 3 + 1 + 1 + 1 by omega]; simpa using k1
        · rw [show (i + 1) * 3 + 1 = i * 3 + 1 + 1 + 1 + 1 by omega]; simpa using k2
        · rw [show (i + 1) * 3 + 2 = i * 3 + 2 + 1 + 1 + 1 by omega]; simpa using k2'
theorem LsAt.append {V : List Nat} {w : World} {gs hs : List Lt} {vs us : List Value} (h : LsAt V w gs vs) (k : LsAt V w hs us) : LsAt V w (gs ++ hs) (vs ++ us) := by
  induction gs generalizing vs with
  | nil => match vs, h with | [], _ => exact k
  | cons g' gs ih =>
    match vs, h with
    | x :: y :: u :: vs, ⟨k1, k2, k3, k4⟩ => exact ⟨k1, k2, k3, ih k4⟩
theorem LsAt.one {V : List Nat} {w : World} (g : Lt) (a : Option Addr) (cap : Nat) (h1 : g.2.2.length ≤ cap) (h2 : Row w a g.2.2) (hn : a = none → cap = 0) (h3 : ∀ y, a = some y → y.block ∈ V) : LsAt V w [g] [.int .i64 g.1, .int .i64 g.2.1, .slice a g.2.2.length cap] :=
  ⟨rfl, rfl, ⟨a, cap, rfl, h1, h2, hn, h3⟩, trivial⟩
theorem LsAt.drop {V : List Nat} {w : World} {gs : List Lt} {vs : List Value} (h : LsAt V w gs vs) (i : Nat) : LsAt V w (gs.drop i) (vs.drop (i * 3)) := by
  induction i generalizing gs vs with
  | zero => simpa using h
  | succ i ih =>
    match gs, vs, h with
    | [], [], _ => simp [LsAt]
    | g :: gs, x :: y :: u :: vs, ⟨_, _, _, k⟩ =>
      have := ih k
      rw [show (i + 1) * 3 = i * 3 + 1 + 1 + 1 by omega]
      simpa using this
theorem LsAt.take {V : List Nat} {w : World} {gs : List Lt} {vs : List Value} (h : LsAt V w gs vs) (i : Nat) : LsAt V w (gs.take i) (vs.take (i * 3)) := by
  induction i generalizing gs vs with
  | zero => simp [LsAt]
  | succ i ih =>
    match gs, vs, h with
    | [], [], _ => simp [LsAt]
    | g :: gs, x :: y :: u :: vs, ⟨k1, k2, k3, k⟩ =>
      have := ih k
      rw [show (i + 1) * 3 = i * 3 + 1 + 1 + 1 by omega]
      simp only [List.take_succ_cons]
      exact ⟨k1, k2, k3, this⟩
theorem LsAt.same {V : List Nat} {w w' : World} {gs : List Lt} {vs : List Value} (h : LsAt V w gs vs) (hb : ∀ k ∈ V, w'.heap[k]? = w.heap[k]?) : LsAt V w' gs vs := by
  induction gs generalizing vs with
  | nil => match vs, h with | [], _ => trivial
  | cons g gs ih =>
    match vs, h with
    | x :: y :: u :: vs, ⟨k1, k1', ⟨a, cap, h2, h3, h4, h5, h6⟩, k3⟩ => exact ⟨k1, k1', ⟨a, cap, h2, h3, h4.same (fun y hy => hb _ (h6 y hy)), h5, h6⟩, ih k3⟩
theorem LsAt.mono {V V' : List Nat} {w : World} {gs : List Lt} {vs : List Value} (h : LsAt V w gs vs) (hb : ∀ k ∈ V, k ∈ V') : LsAt V' w gs vs := by
  induction gs generalizing vs with
  | nil => match vs, h with | [], _ => trivial
  | cons g gs ih =>
    match vs, h with
    | x :: y :: u :: vs, ⟨k1, k1', ⟨a, cap, h2, h3, h4, h5, h6⟩, k3⟩ => exact ⟨k1, k1', ⟨a, cap, h2, h3, h4, h5, fun y hy => hb _ (h6 y hy)⟩, ih k3⟩
theorem LsAt.each {V : List Nat} {w : World} {gs : List Lt} {vs : List Value} (h : LsAt V w gs vs) : ∀ u ∈ vs, u.oneCell' = true := by
  induction gs generalizing vs with
  | nil => match vs, h with | [], _ => simp
  | cons g gs ih =>
    match vs, h with
    | x :: y :: u :: vs, ⟨k1, k1', ⟨a, cap, h2, _⟩, k3⟩ =>
      intro z hz
      simp only [List.mem_cons] at hz
      rcases hz with rfl | rfl | rfl | hz
      · subst k1; rfl
      · subst k1'; rfl
      · subst h2; rfl
      · exact ih k3 z hz

/-- a world: letters, the cut, clocks, the bound, how many came and were lost, whether it is closed -/
structure Wm where
  fl : List Lt
  cut : Nat
  ck : List Nat
  rho : Nat
  tk : Nat
  lo : Nat
  cl : Bool
structure Wm.Wf (m : Wm) : Prop where
  one : 1 ≤ m.ck.length
  five : m.ck.length ≤ 5
  full : m.fl.length ≤ 10000
  mask : m.cut < 2 ^ m.ck.length
  each : ∀ l ∈ m.fl, l.1 < m.ck.length ∧ l.2.1 < m.ck.length ∧ l.2.2.length ≤ 65536
  rho1 : 1 ≤ m.rho
  rho2 : m.rho ≤ 1000
  late : ∀ c ∈ m.ck, c ≤ 1099511627776
def b01 (b : Bool) : Int := if b then 1 else 0
def cks (l : List Nat) : List Value := l.map fun c : Nat => .int .i64 c
theorem cks_length (l : List Nat) : (cks l).length = l.length := List.length_map _
theorem cks_at (l : List Nat) (i : Nat) (h : i < l.length) : (cks l)[i]? = some (.int .i64 l[i]) := by unfold cks; rw [List.getElem?_map, List.getElem?_eq_getElem h]; rfl

/-- a world's places: its clocks, its letters, the letters' bytes -/
structure Wp where
  c : Nat
  q : Option Nat
  V : List Nat



/-- is there such a machine? -/
def hasW (n : Nat) (i : Int) : Bool := decide (0 ≤ i ∧ i < n)


end Go.Proofs.Ytfcaaljehhibgaa

/- A world that is made; clocks, cuts, and what is told. -/
namespace Go.Proofs.Ytfcaaljehhibgaa
open Go.RowKit
set_option linter.unusedVariables false


theorem info_i64 : (Try.prog.info? 2).map (fun i => (i.zero, i.size, i.bytes)) = some (some (.int .i64 0), 1, 8) := by kernel_rfl

theorem made_cks (u : World) (N : Nat) : Blk (u.alloc (.cells (madeCells #[.int .i64 0] N) 2)) u.heap.size 2 (cks (List.replicate N 0)) := by
  have e : (madeCells #[Value.int .i64 0] N) = (List.replicate N (Value.int .i64 0)).toArray := by
    apply Array.ext
    · simp [madeCells]
    · intro i h1 h2; simp [madeCells, Nat.mod_one]
  have e2 : cks (List.replicate N 0) = List.replicate N (Value.int .i64 0) := by unfold cks; simp
  rw [e2, e]; exact Blk.new' u _ _


/-- a new world -/
def Wm.new (n r : Nat) : Wm := ⟨[], 0, List.replicate n 0, r, 0, 0, false⟩
theorem Wm.new_wf {n r : Nat} (h : 1 ≤ n ∧ n ≤ 5) (hr : 1 ≤ r ∧ r ≤ 1000) : (Wm.new n r).Wf :=
  ⟨by simpa [Wm.new] using h.1, by simpa [Wm.new] using h.2, by simp [Wm.new], by simp [Wm.new]; exact Nat.two_pow_pos _, (fun l h => by cases h), hr.1, hr.2, fun c h => by have := List.eq_of_mem_replicate h; omega⟩

theorem at_ck {m : Wm} {i : Int} (h : hasW m.ck.length i = true) : ∃ x : Nat, i = x ∧ x < m.ck.length := by
  have := of_decide_eq_true h
  exact ⟨i.toNat, by omega, by omega⟩
/-- the clock of a machine, 0 of none -/
def Wm.clock (m : Wm) (i : Int) : Nat := if hasW m.ck.length i then m.ck.getD i.toNat 0 else 0

theorem ck_late {m : Wm} (hw : m.Wf) (x : Nat) : m.ck.getD x 0 ≤ 1099511627776 := by
  rw [List.getD]
  cases h : m.ck[x]? with
  | none => simp
  | some c => exact hw.late c (List.mem_of_getElem? h)

end Go.Proofs.Ytfcaaljehhibgaa

/- Clocks that tick; cuts. -/
namespace Go.Proofs.Ytfcaaljehhibgaa
open Go.RowKit
set_option linter.unusedVariables false
set_option maxRecDepth 30000

/-- the least of some clocks -/
def minC : List Nat → Nat
  | [] => 0
  | a :: r => r.foldl min a
theorem minC_le {l : List Nat} : ∀ c ∈ l, minC l ≤ c := by
  have key : ∀ (r : List Nat) (a : Nat), r.foldl min a ≤ a ∧ ∀ c ∈ r, r.foldl min a ≤ c := by
    intro r
    induction r with
    | nil => intro a; exact ⟨Nat.le_refl _, fun c h => by cases h⟩
    | cons b r ih =>
      intro a
      obtain ⟨h1, h2⟩ := ih (min a b)
      refine ⟨Nat.le_trans h1 (Nat.min_le_left _ _), fun c hc => ?_⟩
      rcases List.mem_cons.1 hc with rfl | hc
      · exact Nat.le_trans h1 (Nat.min_le_right _ _)
      · exact h2 c hc
  cases l with
  | nil => intro c h; cases h
  | cons a r =>
    intro c hc
    obtain ⟨h1, h2⟩ := key r a
    rcases List.mem_cons.1 hc with rfl | hc
    · exact h1
    · exact h2 c hc
theorem minC_mem {l : List Nat} (h : l ≠ []) : minC l ∈ l := by
  have key : ∀ (r : List Nat) (a : Nat), r.foldl min a = a ∨ r.foldl min a ∈ r := by
    intro r
    induction r with
    | nil => intro a; exact .inl rfl
    | cons b r ih =>
      intro a
      rcases ih (min a b) with h1 | h1
      · simp only [List.foldl_cons]
        rw [h1]
        rcases Nat.le_total a b with hab | hab
        · rw [Nat.min_eq_left hab]; exact .inl rfl
        · rw [Nat.min_eq_right hab]; exact .inr (List.mem_cons_self ..)
      · exact .inr (List.mem_cons_of_mem _ h1)
  cases l with
  | nil => exact absurd rfl h
  | cons a r =>
    rcases key r a with h1 | h1
    · show r.foldl min a ∈ a :: r; rw [h1]; exact List.mem_cons_self ..
    · exact List.mem_cons_of_mem _ h1

theorem minC_snoc (r : List Nat) (b : Nat) (h : r ≠ []) : minC (r ++ [b]) = min (minC r) b := by
  cases r with
  | nil => exact absurd rfl h
  | cons a r => unfold minC; simp
theorem head_min (l : List Nat) (h : 0 < l.length) : l[0] = minC (l.take 1) := by
  match l, h with
  | a :: r, _ => rfl

theorem minC_late {m : Wm} (hw : m.Wf) : minC m.ck ≤ 1099511627776 := hw.late _ (minC_mem (fun e => by have := hw.one; rw [e] at this; simp at this))
/-- may the clock of a machine tick? -/
def Wm.may (m : Wm) (i : Int) : Bool := hasW m.ck.length i && (decide (m.ck.getD i.toNat 0 < 1099511627776) && decide (m.ck.getD i.toNat 0 + 1 ≤ m.rho + minC m.ck))

end Go.Proofs.Ytfcaaljehhibgaa

/- Clocks that tick, machines that are cut off, what is counted. -/
namespace Go.Proofs.Ytfcaaljehhibgaa
open Go.RowKit
set_option linter.unusedVariables false
set_option maxRecDepth 4000

theorem turned_set (w : World) (g i : Nat) (v : Value) : Turned (fun k => k = g) w (w.setCell ⟨g, i, none⟩ v) := turned_grown (grown_set w g i v) (fun k hk => by cases hk; rfl)
theorem wo_ne {g : Nat} {p : Wp} (h : (g :: p.c :: p.q.toList).Nodup) : g ≠ p.c ∧ p.q ≠ some g ∧ p.q ≠ some p.c := by
  simp only [List.nodup_cons, List.mem_cons, Option.mem_toList, not_or] at h
  exact ⟨h.1.1, fun e => h.1.2 e, fun e => h.2.1 e⟩


def Wm.tick (m : Wm) (i : Int) : Wm := if m.may i then { m with ck := m.ck.set i.toNat (m.ck.getD i.toNat 0 + 1) } else m
def Wm.tickE (m : Wm) (i : Int) : Int := if hasW m.ck.length i then (if m.may i then 0 else 5) else 1
theorem may_has {m : Wm} {i : Int} (h : m.may i = true) : hasW m.ck.length i = true := by unfold Wm.may at h; simp at h; exact h.1
theorem tick_wf {m : Wm} (h : m.Wf) (i : Int) : (m.tick i).Wf := by
  unfold Wm.tick
  split
  · rename_i hm
    refine ⟨by simpa using h.one, by simpa using h.five, h.full, by simpa using h.mask, by simpa using h.each, h.rho1, h.rho2, fun c hc => ?_⟩
    rcases List.mem_or_eq_of_mem_set hc with hc | rfl
    · exact h.late c hc
    · unfold Wm.may at hm
      simp at hm
      have := hm.2.1
      simp only [List.getD] at this ⊢
      omega
  · exact h

theorem and_bit : ∀ x : Nat, x < 32 → bits .and .i64 (x : Int) 1 = ((x % 2 : Nat) : Int) := by decide
/-- on which side a machine is -/
def sideN (cut i : Nat) : Nat := cut / 2 ^ i % 2

/-- are two machines cut off from each other? -/
def Wm.apart (m : Wm) (a b : Int) : Bool := hasW m.ck.length a && (hasW m.ck.length b && decide (sideN m.cut a.toNat ≠ sideN m.cut b.toNat))

def Wm.cutE (m : Wm) (k : Int) : Int := if 0 ≤ k ∧ k < 2 ^ m.ck.length then 0 else 1
def Wm.cutTo (m : Wm) (k : Int) : Wm := if 0 ≤ k ∧ k < 2 ^ m.ck.length then { m with cut := k.toNat } else m
theorem cut_wf {m : Wm} (h : m.Wf) (k : Int) : (m.cutTo k).Wf := by
  unfold Wm.cutTo
  split
  · rename_i hk
    refine ⟨h.one, h.five, h.full, ?_, h.each, h.rho1, h.rho2, h.late⟩
    show k.toNat < 2 ^ m.ck.length
    have : ((2 ^ m.ck.length : Nat) : Int) = 2 ^ m.ck.length := by rw [Int.natCast_pow]; rfl
    omega
  · exact h

end Go.Proofs.Ytfcaaljehhibgaa
