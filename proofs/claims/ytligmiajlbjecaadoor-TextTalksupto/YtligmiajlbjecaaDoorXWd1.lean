/- A window in memory: commands that are held, that wait to be told; what is told of it. -/
import Derived.Test.YtligmiajlbjecaaDoorXGs1
import Derived.Test.YtligmiajlbjecaaDoorXWo5
import Derived.Test.YtligmiajlbjecaaDoorXFieldR
import Derived.BigQuiet
namespace Go.Proofs.YtligmiajlbjecaaDoor
open Go.RowKit
set_option linter.unusedVariables false
set_option linter.unusedSimpArgs false
set_option maxRecDepth 4000

/-- a command: its number, whether it came now, its id -/
abbrev Cm := BitVec 32 × Bool × Int


/-- a window: expected, places, being done, held, to be told, how many of those came now -/
structure Wn where
  exp : BitVec 32
  size : Nat
  busy : Nat
  held : List Cm
  wait : List Cm
  nows : Nat
structure Wn.Wf (m : Wn) : Prop where
  one : 1 ≤ m.size
  most : m.size ≤ 64
  room : m.busy ≤ m.size
  now64 : m.nows ≤ 64
  few : m.held.length + m.wait.length ≤ 10000
  nows : m.nows = (m.wait.filter (·.2.1)).length

/-- where the held ones, and those that wait, lie -/
abbrev Wq := Option Nat × Option Nat
def wdW (g : Nat) (p : Wq) : List Nat := g :: (p.1.toList ++ p.2.toList)
theorem mem_wdW (g k : Nat) (p : Wq) : k ∈ wdW g p ↔ k = g ∨ p.1 = some k ∨ p.2 = some k := by simp [wdW]
structure Wq.Ap (g : Nat) (p : Wq) : Prop where
  a : p.1 ≠ some g
  b : p.2 ≠ some g
  c : ∀ k, p.1 = some k → p.2 ≠ some k







theorem dn9 (B : Nat) (w : World) (n : Nat) : Below B w (w.drewN n) := ⟨rfl, rfl, rfl, Nat.le_refl _, fun _ _ => rfl⟩
def Wn.high (m : Wn) : BitVec 32 := m.exp + BitVec.ofNat 32 (m.size - m.busy) - 1#32
def Wn.new (first : BitVec 32) (size : Nat) : Wn := ⟨first, size, 0, [], [], 0⟩


theorem high_int (m : Wn) (h : m.busy ≤ m.size) (h2 : m.size ≤ 64) : ((((m.exp.toNat : Int) + ((m.size - m.busy : Nat) : Int)) % 4294967296) - 1) % 4294967296 = (m.high.toNat : Int) := by
  have hx := m.exp.isLt
  unfold Wn.high
  rw [BitVec.toNat_sub, BitVec.toNat_add, BitVec.toNat_ofNat]
  simp only [BitVec.toNat_ofNat]
  generalize m.exp.toNat = x at *
  generalize m.size - m.busy = d at *
  omega






def Wn.done (m : Wn) : Wn := { m with busy := m.busy - 1 }


end Go.Proofs.YtligmiajlbjecaaDoor

/- Commands are looked for, and taken out. -/
namespace Go.Proofs.YtligmiajlbjecaaDoor
open Go.RowKit
set_option linter.unusedVariables false
set_option linter.unusedSimpArgs false
set_option maxRecDepth 4000



/-- where the command of the number n stands: -1, if nowhere -/
structure IxIs (l : List Cm) (n : BitVec 32) (i : Int) : Prop where
  is : (i = -1 ∧ ∀ x ∈ l, ¬ x.1 = n) ∨ ∃ k : Nat, i = k ∧ ∃ h : k < l.length, l[k].1 = n ∧ ∀ x ∈ l.take k, ¬ x.1 = n


end Go.Proofs.YtligmiajlbjecaaDoor

/- A command is taken out of a slice. -/
namespace Go.Proofs.YtligmiajlbjecaaDoor
open Go.RowKit
set_option linter.unusedVariables false
set_option linter.unusedSimpArgs false
set_option maxRecDepth 4000

/-- an append with room -/
theorem room_run {α : Type} {K : Kd α} {w : World} {m : List α} (hK : K.Ok) (b off cap : Nat) (cur : List Value) (l : List α) (hB : Blk w b K.E cur) (hfit : off + cap * K.s ≤ cur.length) (h7 : (cur.drop off).take (l.length * K.s) = K.cs l)
    (ad : Addr) (c : Nat) (hnews : ∀ j u, (K.cs m)[j]? = some u → w.cell? (ad.add j) = some u) (hroom : l.length + m.length ≤ cap) (ty : TypeId) :
    ∃ w' cur', (Builtin.append_ #[K.T, K.T] ty #[.slice (some ⟨b, off, none⟩) l.length cap, .slice (some ad) m.length c]).run Tryd.prog w = .ok (.slice (some ⟨b, off, none⟩) (l.length + m.length) cap) w' ∧ Blk w' b K.E cur' ∧ cur'.length = cur.length ∧ (cur'.drop off).take ((l.length + m.length) * K.s) = K.cs (l ++ m) ∧ w.grownBy w' (some b) := by
  obtain ⟨i0, hi, hz0, hz1, hz2⟩ := info_parts hK.info
  have hln := Kd.cs_length hK m
  have hf : off + l.length * K.s + (K.cs m).length ≤ cur.length := by
    have : (l.length + m.length) * K.s ≤ cap * K.s := Nat.mul_le_mul_right _ hroom
    rw [Nat.add_mul] at this; omega
  have hr := run_append_room_cells (P := Tryd.prog) w K.T ty K.E i0 hK.und hi b off l.length cap ad m.length c (K.cs m) (by rw [hz1]; exact hln) hnews (Kd.cs_one hK m) hroom
    (fun j hj => by rw [hz1, blk_at hB, List.getElem?_eq_getElem (by omega)]; rfl) (fun j hj => blk_frozen hB _)
  rw [hz1] at hr
  obtain ⟨B1, g1⟩ := Blk.setCells (K.cs m) (off + l.length * K.s) w cur hB hf
  refine ⟨_, _, hr, B1, length_splice _ _ _ (by omega), ?_, g1⟩
  have := splice_mid h7 (Kd.cs_length hK l) (D := K.cs m) (by omega)
  rw [hln, ← Nat.add_mul] at this
  rw [this, Kd.cs_append]


theorem splice_front {cur D : List Value} {off n p : Nat} (h : off + n ≤ p) (hp : p ≤ cur.length) : ((splice cur p D).drop off).take n = (cur.drop off).take n := by
  apply List.ext_getElem?
  intro i
  rw [List.getElem?_take, List.getElem?_take]
  by_cases hi : i < n
  · rw [if_pos hi, if_pos hi, List.getElem?_drop, List.getElem?_drop]
    unfold splice
    rw [List.getElem?_append_left (by rw [List.length_take]; omega), List.getElem?_take, if_pos (by omega)]
  · rw [if_neg hi, if_neg hi]

end Go.Proofs.YtligmiajlbjecaaDoor

/- Parts of slices of things. -/
namespace Go.Proofs.YtligmiajlbjecaaDoor
open Go.RowKit
set_option linter.unusedVariables false
set_option maxRecDepth 4000
section
variable {α : Type} {K : Kd α} {w : World} {q : Option Nat} {l : List α}
theorem GAt.nothing (K : Kd α) (w : World) (a : Addr) (c : Nat) : GAt K w (.slice (some a) 0 c) [] :=
  ⟨some a, c, rfl, by simp, (fun h => by cases h), fun ad h j u hj => by simp [Kd.cs] at hj⟩
theorem GAt.front (hK : K.Ok) {b off n cap k : Nat} (h : GAt K w (.slice (some ⟨b, off, none⟩) n cap) l) (hn : n = l.length) (hk : k ≤ n) : GAt K w (.slice (some ⟨b, off, none⟩) k cap) (l.take k) := by
  obtain ⟨a, c, e, h1, h2, h3⟩ := h
  cases e
  have hl : (l.take k).length = k := by rw [List.length_take]; omega
  refine ⟨_, cap, by rw [hl], by omega, (fun h => by cases h), fun ad had j u hj => ?_⟩
  cases had
  refine h3 _ rfl j u ?_
  rw [← Kd.cs_take hK, List.getElem?_take] at hj
  split at hj
  · exact hj
  · cases hj
theorem GAt.back (hK : K.Ok) {b off n cap k : Nat} (h : GAt K w (.slice (some ⟨b, off, none⟩) n cap) l) (hn : n = l.length) (hk : k ≤ n) : GAt K w (.slice (some ⟨b, off + k * K.s, none⟩) (n - k) (cap - k)) (l.drop k) := by
  obtain ⟨a, c, e, h1, h2, h3⟩ := h
  cases e
  have hl : (l.drop k).length = l.length - k := by rw [List.length_drop]
  refine ⟨_, cap - k, by rw [hl], by omega, (fun h => by cases h), fun ad had j u hj => ?_⟩
  cases had
  rw [← Kd.cs_drop hK, List.getElem?_drop] at hj
  have := h3 _ rfl _ u hj
  rw [Addr.add_lit] at this ⊢
  rw [Nat.add_assoc]
  exact this
theorem new_one (hK : K.Ok) (w : World) (x : α) (cs : List Value) (hc : K.f x = cs) : GAt K (w.alloc (.cells cs.toArray K.E)) (.slice (some ⟨w.heap.size, 0, none⟩) 1 1) [x] := by
  refine ⟨_, 1, rfl, by simp, (fun h => by cases h), fun ad h j u hj => ?_⟩
  cases h
  rw [Addr.add_lit, blk_at (Blk.new' w K.E cs), Nat.zero_add]
  simpa [Kd.cs, hc] using hj
end
end Go.Proofs.YtligmiajlbjecaaDoor
