/- A window in memory: commands that are held, that wait to be told; what is told of it. -/
import Derived.Test.YtligmiajlbjecaaDoorXGs1
import Derived.Test.YtligmiajlbjecaaDoorXWo12
import Derived.Test.YtligmiajlbjecaaDoorXFieldR
import Derived.BigQuiet
namespace Go.Proofs.YtligmiajlbjecaaDoor
open Go.RowKit
set_option linter.unusedVariables false
set_option linter.unusedSimpArgs false
set_option maxRecDepth 4000

/-- a command: its number, whether it came now, its id -/
abbrev Cm := BitVec 32 × Bool × Int


/-- a window: expected, places, being done, held, to be told, how many of those came now -/
structure Wn where
  exp : BitVec 32
  size : Nat
  busy : Nat
  held : List Cm
  wait : List Cm
  nows : Nat
structure Wn.Wf (m : Wn) : Prop where
  one : 1 ≤ m.size
  most : m.size ≤ 64
  room : m.busy ≤ m.size
  now64 : m.nows ≤ 64
  few : m.held.length + m.wait.length ≤ 10000
  nows : m.nows = (m.wait.filter (·.2.1)).length

/-- where the held ones, and those that wait, lie -/
abbrev Wq := Option Nat × Option Nat
def wdW (g : Nat) (p : Wq) : List Nat := g :: (p.1.toList ++ p.2.toList)
theorem mem_wdW (g k : Nat) (p : Wq) : k ∈ wdW g p ↔ k = g ∨ p.1 = some k ∨ p.2 = some k := by simp [wdW]
structure Wq.Ap (g : Nat) (p : Wq) : Prop where
  a : p.1 ≠ some g
  b : p.2 ≠ some g
  c : ∀ k, p.1 = some k → p.2 ≠ some k







theorem dn9 (B : Nat) (w : World) (n : Nat) : Below B w (w.drewN n) := ⟨rfl, rfl, rfl, Nat.le_refl _, fun _ _ => rfl⟩
def Wn.high (m : Wn) : BitVec 32 := m.exp + BitVec.ofNat 32 (m.size - m.busy) - 1#32
def Wn.new (first : BitVec 32) (size : Nat) : Wn := ⟨first, size, 0, [], [], 0⟩


theorem high_int (m : Wn) (h : m.busy ≤ m.size) (h2 : m.size ≤ 64) : ((((m.exp.toNat : Int) + ((m.size - m.busy : Nat) : Int)) % 4294967296) - 1) % 4294967296 = (m.high.toNat : Int) := by
  have hx := m.exp.isLt
  unfold Wn.high
  rw [BitVec.toNat_sub, BitVec.toNat_add, BitVec.toNat_ofNat]
  simp only [BitVec.toNat_ofNat]
  generalize m.exp.toNat = x at *
  generalize m.size - m.busy = d at *
  omega






def Wn.done (m : Wn) : Wn := { m with busy := m.busy - 1 }


end Go.Proofs.YtligmiajlbjecaaDoor

