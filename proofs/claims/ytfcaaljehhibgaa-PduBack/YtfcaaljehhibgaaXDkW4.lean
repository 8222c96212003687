/- A disk in memory; the calls that change little. -/
import Derived.Test.YtfcaaljehhibgaaXDkW2
import Derived.Laws.MakeOwn
namespace Go.Proofs.Ytfcaaljehhibgaa
open Go.RowKit
set_option linter.unusedVariables false

/-- groups as cells -/
def GsAt (V : List Nat) (w : World) : List (Nat × List (BitVec 8)) → List Value → Prop
  | [], [] => True
  | g :: gs, x :: u :: vs => x = .int .i64 g.1 ∧ (∃ a cap, u = .slice a g.2.length cap ∧ g.2.length ≤ cap ∧ Row w a g.2 ∧ ∀ y, a = some y → y.block ∈ V) ∧ GsAt V w gs vs
  | _, _ => False
theorem GsAt.get {V : List Nat} {w : World} {gs : List (Nat × List (BitVec 8))} {vs : List Value} (h : GsAt V w gs vs) (i : Nat) (hi : i < gs.length) :
    ∃ a cap, vs[i * 2]? = some (.int .i64 gs[i].1) ∧ vs[i * 2 + 1]? = some (.slice a gs[i].2.length cap) ∧ gs[i].2.length ≤ cap ∧ Row w a gs[i].2 ∧ ∀ y, a = some y → y.block ∈ V := by
  induction gs generalizing vs i with
  | nil => simp at hi
  | cons g gs ih =>
    match vs, h with
    | x :: u :: vs, ⟨h1, ⟨a, cap, h2, h3, h4, h5⟩, h6⟩ =>
      cases i with
      | zero => subst h1; subst h2; exact ⟨a, cap, rfl, rfl, h3, h4, h5⟩
      | succ i =>
        obtain ⟨a, cap, k1, k2, k3⟩ := ih h6 i (by simpa using hi)
        refine ⟨a, cap, ?_, ?_, k3⟩
        · rw [show (i + 1) * 2 = i * 2 + 1 + 1 by omega]; simpa using k1
        · rw [show (i + 1) * 2 + 1 = i * 2 + 1 + 1 + 1 by omega]; simpa using k2
theorem GsAt.snoc {V : List Nat} {w : World} {gs : List (Nat × List (BitVec 8))} {vs : List Value} (h : GsAt V w gs vs) (g : Nat × List (BitVec 8)) (a : Option Addr) (cap : Nat) (h1 : g.2.length ≤ cap) (h2 : Row w a g.2) (h3 : ∀ y, a = some y → y.block ∈ V) :
    GsAt V w (gs ++ [g]) (vs ++ [.int .i64 g.1, .slice a g.2.length cap]) := by
  induction gs generalizing vs with
  | nil =>
    match vs, h with
    | [], _ => exact ⟨rfl, ⟨a, cap, rfl, h1, h2, h3⟩, trivial⟩
  | cons g' gs ih =>
    match vs, h with
    | x :: u :: vs, ⟨k1, k2, k3⟩ => exact ⟨k1, k2, ih k3⟩
theorem Row.same {w w' : World} {a : Option Addr} {l : List (BitVec 8)} (h : Row w a l) (hb : ∀ y, a = some y → w'.heap[y.block]? = w.heap[y.block]?) : Row w' a l := by
  rcases h with h | ⟨b, off, rfl, hc⟩
  · exact .inl h
  · exact .inr ⟨b, off, rfl, fun i hi => (World.cell?_of_block (w := w) (a := ⟨b, off + i, none⟩) (hb ⟨b, off, none⟩ rfl)).trans (hc i hi)⟩
theorem GsAt.same {V : List Nat} {w w' : World} {gs : List (Nat × List (BitVec 8))} {vs : List Value} (h : GsAt V w gs vs) (hb : ∀ k ∈ V, w'.heap[k]? = w.heap[k]?) : GsAt V w' gs vs := by
  induction gs generalizing vs with
  | nil => match vs, h with | [], _ => trivial
  | cons g gs ih =>
    match vs, h with
    | x :: u :: vs, ⟨k1, ⟨a, cap, h2, h3, h4, h5⟩, k3⟩ => exact ⟨k1, ⟨a, cap, h2, h3, h4.same (fun y hy => hb _ (h5 y hy)), h5⟩, ih k3⟩
theorem GsAt.mono {V V' : List Nat} {w : World} {gs : List (Nat × List (BitVec 8))} {vs : List Value} (h : GsAt V w gs vs) (hb : ∀ k ∈ V, k ∈ V') : GsAt V' w gs vs := by
  induction gs generalizing vs with
  | nil => match vs, h with | [], _ => trivial
  | cons g gs ih =>
    match vs, h with
    | x :: u :: vs, ⟨k1, ⟨a, cap, h2, h3, h4, h5⟩, k3⟩ => exact ⟨k1, ⟨a, cap, h2, h3, h4, fun y hy => hb _ (h5 y hy)⟩, ih k3⟩
theorem ownsRow_same {w w' : World} {base size n : Nat} {e : TypeId} {v : Value} {xs : List Value} (h : w.ownsRow base e size v n xs) (hb : ∀ k, v.ownBlock = some k → w'.heap[k]? = w.heap[k]?) : w'.ownsRow base e size v n xs := by
  obtain ⟨h1, h2 | ⟨g, cap, cur, rfl, hg, hh, r⟩⟩ := h
  · exact ⟨h1, .inl h2⟩
  · exact ⟨h1, .inr ⟨g, cap, cur, rfl, hg, by rw [hb g rfl]; exact hh, r⟩⟩


/-- a disk's places: its safe bytes, those that are read, its groups, the groups' bytes -/
structure Pl where
  s : Nat
  m : Nat
  q : Option Nat
  V : List Nat



/-- how many sectors there are -/
def Dm.n (d : Dm) : Nat := d.safe.length / 256
theorem Dm.Wf.len {d : Dm} (h : d.Wf) : d.safe.length = d.n * 256 ∧ 1 ≤ d.n ∧ d.n ≤ 4096 := by
  obtain ⟨n, h1, h2, h3⟩ := h.size
  unfold Dm.n; omega
theorem Dm.Wf.now {d : Dm} (h : d.Wf) : (nowOf d.safe d.gs).length = d.safe.length := nowOf_length h.fits


/-- are these sectors there? -/
def hasB (n : Nat) (a k : Int) : Bool := decide (1 ≤ k ∧ k ≤ n ∧ 0 ≤ a ∧ a ≤ n - k)

end Go.Proofs.Ytfcaaljehhibgaa

/- A disk that is made; what is told of it. -/
namespace Go.Proofs.Ytfcaaljehhibgaa
open Go.RowKit
set_option linter.unusedVariables false

theorem Own.some {w : World} {base : Nat} {v : Value} {l : List (BitVec 8)} (h : Own w base v l) (h1 : 1 ≤ l.length) : ∃ m cap, v = .slice (some ⟨m, 0, none⟩) l.length cap ∧ base ≤ m ∧ m < w.heap.size := by
  have hl := World.ownsRow.lt h
  obtain ⟨_, h2 | ⟨g, cap, cur, rfl, hb, _⟩⟩ := h
  · omega
  · exact ⟨g, cap, rfl, hb, (hl g rfl).2⟩
theorem Own.low {w : World} {base base' : Nat} {v : Value} {l : List (BitVec 8)} (h : Own w base v l) (hb : base' ≤ base) : Own w base' v l := by
  obtain ⟨h1, h2 | ⟨g, cap, cur, hv, hg, r⟩⟩ := h
  · exact ⟨h1, .inl h2⟩
  · exact ⟨h1, .inr ⟨g, cap, cur, hv, by omega, r⟩⟩


theorem make_bytes (N : Nat) (C : Int) (hC : C = N) (hN : N ≤ 281474976710656) (u : World) : (Instr.makeSlice 34 (.int .i64 C) (.int .i64 C)).run Try.prog u =
    .ok (.slice (some ⟨u.heap.size, 0, none⟩) N N) (u.alloc (.cells (madeCells #[.int .u8 0] N) 5)) := by
  obtain ⟨i0, hi, hz0, hz1, hz2⟩ := info_parts info_u8
  have h := run_make (P := Try.prog) u 34 5 i0 (.int .u8 0) Try.underlying34 hi hz0 .i64 .i64 C C (by omega) (by omega) (by rw [hz2]; omega) (by omega)
  subst hC
  rw [hz1] at h
  simpa [Value.cells] using h
theorem made_own (u : World) (N : Nat) (hN : N ≤ maxLen) : Own (u.alloc (.cells (madeCells #[.int .u8 0] N) 5)) u.heap.size (.slice (some ⟨u.heap.size, 0, none⟩) N N) (List.replicate N 0#8) := by
  have e : (madeCells #[Value.int .u8 0] N) = (List.replicate N (Value.int .u8 0)).toArray := by
    apply Array.ext
    · simp [madeCells]
    · intro i h1 h2; simp [madeCells, Nat.mod_one]
  have hB : Blk (u.alloc (.cells (madeCells #[.int .u8 0] N) 5)) u.heap.size 5 (List.replicate N (.int .u8 0)) := by rw [e]; exact Blk.new' u _ _
  have := blk_own (base := u.heap.size) (cap := N) (l := List.replicate N 0#8) hB (by simp) (by rw [vals_zeros]; simp) (by simp) hN (Nat.le_refl _)
  simpa using this



/-- can these bytes be an image? -/
def isImage (n : Nat) : Bool := decide (n % 256 = 0 ∧ 256 ≤ n ∧ n ≤ 1048576)






end Go.Proofs.Ytfcaaljehhibgaa
