/- A world in memory: letters, cuts, clocks; what is told of it. -/
import Derived.Test.YtclpedjjboblpaaDoorXDkW4
import Derived.Test.YtclpedjjboblpaaDoorXDraw
import Derived.Test.YtclpedjjboblpaaDoorXMp
import Derived.Laws.LoneSync
namespace Go.Proofs.YtclpedjjboblpaaDoor
open Go.RowKit
set_option linter.unusedVariables false

theorem step_of {w w' : World} {o o' : Ob} (ht : Turned (· ∈ o.W) w w') (hP : o'.P w') (hst : ∀ w1 w2 : World, (∀ k, k ∈ o'.W ∨ k ∈ o'.V → w2.heap[k]? = w1.heap[k]?) → o'.P w1 → o'.P w2)
    (hW : ∀ k ∈ o'.W, (k ∈ o.W ∨ w.heap.size ≤ k) ∧ k < w'.heap.size) (hV : ∀ k ∈ o'.V, (k ∈ o.V ∨ w.heap.size ≤ k) ∧ k < w'.heap.size) (ap : ∀ k ∈ o'.W, k ∉ o'.V) : Step w w' o o' :=
  ⟨ht, ⟨hP, fun k hk => hk.elim (fun h => (hW k h).2) (fun h => (hV k h).2), ap, hst⟩, fun k hk => (hW k hk).1, fun k hk => (hV k hk).1.elim (fun h => .inr (.inl h)) (fun h => .inr (.inr h))⟩

abbrev Lt := Nat × Nat × List (BitVec 8)
/-- letters as cells -/
def LsAt (V : List Nat) (w : World) : List Lt → List Value → Prop
  | [], [] => True
  | g :: gs, x :: y :: u :: vs => x = .int .i64 g.1 ∧ y = .int .i64 g.2.1 ∧ (∃ a cap, u = .slice a g.2.2.length cap ∧ g.2.2.length ≤ cap ∧ Row w a g.2.2 ∧ (a = none → cap = 0) ∧ ∀ y, a = some y → y.block ∈ V) ∧ LsAt V w gs vs
  | _, _ => False
theorem LsAt.length {V : List Nat} {w : World} {gs : List Lt} {vs : List Value} (h : LsAt V w gs vs) : vs.length = gs.length * 3 := by
  induction gs generalizing vs with
  | nil => match vs, h with | [], _ => rfl
  | cons g gs ih =>
    match vs, h with
    | x :: y :: u :: vs, ⟨_, _, _, h6⟩ => have := ih h6; simp only [List.length_cons]; omega
theorem LsAt.get {V : List Nat} {w : World} {gs : List Lt} {vs : List Value} (h : LsAt V w gs vs) (i : Nat) (hi : i < gs.length) :
    ∃ a cap, vs[i * 3]? = some (.int .i64 gs[i].1) ∧ vs[i * 3 + 1]? = some (.int .i64 gs[i].2.1) ∧ vs[i * 3 + 2]? = some (.slice a gs[i].2.2.length cap) ∧ gs[i].2.2.length ≤ cap ∧ Row w a gs[i].2.2 ∧ (a = none → cap = 0) ∧ ∀ y, a = some y → y.block ∈ V := by
  induction gs generalizing vs i with
  | nil => simp at hi
  | cons g gs ih =>
    match vs, h with
    | x :: y :: u :: vs, ⟨h1, h1', ⟨a, cap, h2, h3, h4, h5⟩, h6⟩ =>
      cases i with
      | zero => subst h1; subst h1'; subst h2; exact ⟨a, cap, rfl, rfl, rfl, h3, h4, h5⟩
      | succ i =>
        obtain ⟨a, cap, k1, k2, k2', k3⟩ := ih h6 i (by simpa using hi)
        refine ⟨a, cap, ?_, ?_, ?_, k3⟩
        · rw [show (i + 1) * 3 = i * 3 + 1 + 1 + 1 by omega]; simpa using k1
        · rw [show (i + 1) * 3 + 1 = i * 3 + 1 + 1 + 1 + 1 by omega]; simpa using k2
        · rw [show (i + 1) * 3 + 2 = i * 3 + 2 + 1 + 1 + 1 by omega]; simpa using k2'
theorem LsAt.append {V : List Nat} {w : World} {gs hs : List Lt} {vs us : List Value} (h : LsAt V w gs vs) (k : LsAt V w hs us) : LsAt V w (gs ++ hs) (vs ++ us) := by
  induction gs generalizing vs with
  | nil => match vs, h with | [], _ => exact k
  | cons g' gs ih =>
    match vs, h with
    | x :: y :: u :: vs, ⟨k1, k2, k3, k4⟩ => exact ⟨k1, k2, k3, ih k4⟩
theorem LsAt.one {V : List Nat} {w : World} (g : Lt) (a : Option Addr) (cap : Nat) (h1 : g.2.2.length ≤ cap) (h2 : Row w a g.2.2) (hn : a = none → cap = 0) (h3 : ∀ y, a = some y → y.block ∈ V) : LsAt V w [g] [.int .i64 g.1, .int .i64 g.2.1, .slice a g.2.2.length cap] :=
  ⟨rfl, rfl, ⟨a, cap, rfl, h1, h2, hn, h3⟩, trivial⟩
theorem LsAt.drop {V : List Nat} {w : World} {gs : List Lt} {vs : List Value} (h : LsAt V w gs vs) (i : Nat) : LsAt V w (gs.drop i) (vs.drop (i * 3)) := by
  induction i generalizing gs vs with
  | zero => simpa using h
  | succ i ih =>
    match gs, vs, h with
    | [], [], _ => simp [LsAt]
    | g :: gs, x :: y :: u :: vs, ⟨_, _, _, k⟩ =>
      have := ih k
      rw [show (i + 1) * 3 = i * 3 + 1 + 1 + 1 by omega]
      simpa using this
theorem LsAt.take {V : List Nat} {w : World} {gs : List Lt} {vs : List Value} (h : LsAt V w gs vs) (i : Nat) : LsAt V w (gs.take i) (vs.take (i * 3)) := by
  induction i generalizing gs vs with
  | zero => simp [LsAt]
  | succ i ih =>
    match gs, vs, h with
    | [], [], _ => simp [LsAt]
    | g :: gs, x :: y :: u :: vs, ⟨k1, k2, k3, k⟩ =>
      have := ih k
      rw [show (i + 1) * 3 = i * 3 + 1 + 1 + 1 by omega]
      simp only [List.take_succ_cons]
      exact ⟨k1, k2, k3, this⟩
theorem LsAt.same {V : List Nat} {w w' : World} {gs : List Lt} {vs : List Value} (h : LsAt V w gs vs) (hb : ∀ k ∈ V, w'.heap[k]? = w.heap[k]?) : LsAt V w' gs vs := by
  induction gs generalizing vs with
  | nil => match vs, h with | [], _ => trivial
  | cons g gs ih =>
    match vs, h with
    | x :: y :: u :: vs, ⟨k1, k1', ⟨a, cap, h2, h3, h4, h5, h6⟩, k3⟩ => exact ⟨k1, k1', ⟨a, cap, h2, h3, h4.same (fun y hy => hb _ (h6 y hy)), h5, h6⟩, ih k3⟩
theorem LsAt.mono {V V' : List Nat} {w : World} {gs : List Lt} {vs : List Value} (h : LsAt V w gs vs) (hb : ∀ k ∈ V, k ∈ V') : LsAt V' w gs vs := by
  induction gs generalizing vs with
  | nil => match vs, h with | [], _ => trivial
  | cons g gs ih =>
    match vs, h with
    | x :: y :: u :: vs, ⟨k1, k1', ⟨a, cap, h2, h3, h4, h5, h6⟩, k3⟩ => exact ⟨k1, k1', ⟨a, cap, h2, h3, h4, h5, fun y hy => hb _ (h6 y hy)⟩, ih k3⟩
theorem LsAt.each {V : List Nat} {w : World} {gs : List Lt} {vs : List Value} (h : LsAt V w gs vs) : ∀ u ∈ vs, u.oneCell' = true := by
  induction gs generalizing vs with
  | nil => match vs, h with | [], _ => simp
  | cons g gs ih =>
    match vs, h with
    | x :: y :: u :: vs, ⟨k1, k1', ⟨a, cap, h2, _⟩, k3⟩ =>
      intro z hz
      simp only [List.mem_cons] at hz
      rcases hz with rfl | rfl | rfl | hz
      · subst k1; rfl
      · subst k1'; rfl
      · subst h2; rfl
      · exact ih k3 z hz

/-- a world: letters, the cut, clocks, the bound, how many came and were lost, whether it is closed -/
structure Wm where
  fl : List Lt
  cut : Nat
  ck : List Nat
  rho : Nat
  tk : Nat
  lo : Nat
  cl : Bool
structure Wm.Wf (m : Wm) : Prop where
  one : 1 ≤ m.ck.length
  five : m.ck.length ≤ 5
  full : m.fl.length ≤ 10000
  mask : m.cut < 2 ^ m.ck.length
  each : ∀ l ∈ m.fl, l.1 < m.ck.length ∧ l.2.1 < m.ck.length ∧ l.2.2.length ≤ 65536
  rho1 : 1 ≤ m.rho
  rho2 : m.rho ≤ 1000
  late : ∀ c ∈ m.ck, c ≤ 1099511627776
def b01 (b : Bool) : Int := if b then 1 else 0
def cks (l : List Nat) : List Value := l.map fun c : Nat => .int .i64 c
theorem cks_length (l : List Nat) : (cks l).length = l.length := List.length_map _
theorem cks_at (l : List Nat) (i : Nat) (h : i < l.length) : (cks l)[i]? = some (.int .i64 l[i]) := by unfold cks; rw [List.getElem?_map, List.getElem?_eq_getElem h]; rfl

/-- a world's places: its clocks, its letters, the letters' bytes -/
structure Wp where
  c : Nat
  q : Option Nat
  V : List Nat



/-- is there such a machine? -/
def hasW (n : Nat) (i : Int) : Bool := decide (0 ≤ i ∧ i < n)


end Go.Proofs.YtclpedjjboblpaaDoor

