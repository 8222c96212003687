/- The document's reader. -/
import Derived.Test.YtdagekciipfnoaaXFieldP2
import Derived.Test.YtdagekciipfnoaaXFieldRef
namespace Go.Proofs.Ytdagekciipfnoaa
open Go.RowKit

theorem grown_refl (w : World) (row : Option Nat) : w.grownBy w row := ⟨rfl, rfl, rfl, Nat.le_refl _, fun _ _ _ => rfl⟩

theorem numE_ne {len : Nat} {size : Int} (h : numE len size ≠ 0) : numE len size = (if size < 1 ∨ 8 < size then 1 else 10) ∧ (¬ (size < 1 ∨ 8 < size) → (len : Int) < size) := by
  unfold numE widthB at *
  by_cases h1 : size < 1 ∨ 8 < size
  · have : decide (1 ≤ size ∧ size ≤ 8) = false := by rw [decide_eq_false_iff_not]; omega
    rw [this, if_pos rfl, if_pos h1]
    exact ⟨rfl, fun h => absurd h1 h⟩
  · have : decide (1 ≤ size ∧ size ≤ 8) = true := by rw [decide_eq_true_eq]; omega
    rw [this, if_neg (by decide)] at h ⊢
    rw [if_neg h1]
    by_cases h2 : (len : Int) < size
    · rw [if_pos h2]; exact ⟨rfl, fun _ => h2⟩
    · rw [if_neg h2] at h; exact absurd rfl h










/-- a count that fails: the bytes are put back -/
theorem count_back {w w1 : World} {F : List Nat} {g T : Nat} {L : List (BitVec 8)} {E E' : Int} {a a1 : Option Addr} {len cap len1 cap1 : Nat} {l : List (BitVec 8)} (h : RdAt w F g T L E a len cap l) (hB : Blk w1 g T [.slice a1 len1 cap1, .int .i64 E']) (hg : w.grownBy w1 (some g)) (hE : E' ≠ 0) :
    Rd (w1.setCell ⟨g, 0, none⟩ (.slice a len cap)) F g T [] E' ∧ w.grownBy (w1.setCell ⟨g, 0, none⟩ (.slice a len cap)) (some g) :=
  ⟨⟨a, len, cap, l, h.turn (hB.set 0 (.slice a len cap)) (grown_trans hg (grown_set _ _ _ _)) (fun e => absurd e hE)⟩, grown_trans hg (grown_set _ _ _ _)⟩


/-- a reader that was made of bytes that the call owns -/
theorem Rd.made {w1 w2 : World} {base g T : Nat} {a : Option Addr} {cap : Nat} {l : List (BitVec 8)} {row : Option Nat} (ho : Own w1 base (.slice a l.length cap) l) (hB : Blk w2 g T [.slice a l.length cap, .int .i64 0]) (hg : w1.grownBy w2 row) (hrow : ∀ x, a = some x → some x.block ≠ row)
    (hne : ∀ x, a = some x → x.block ≠ g) (hl : l.length ≤ 140737488351232) (F : List Nat) (hF : ∀ k ∈ F, k < base) : Rd w2 F g T l 0 := by
  obtain ⟨a2, cap2, hv, hle2, hm2, hr2, hn2, hg2⟩ := ho.open
  simp only [Value.slice.injEq] at hv
  obtain ⟨rfl, _, rfl⟩ := hv
  have hlt2 : ∀ x, a = some x → x.block < w1.heap.size := fun x hx => by subst hx; exact (World.ownsRow.lt ho x.block rfl).2
  have hge2 : ∀ x, a = some x → base ≤ x.block := fun x hx => by subst hx; exact (World.ownsRow.lt ho x.block rfl).1
  exact ⟨a, l.length, cap, l, hB, rfl, hle2, hl, hr2.keep hg hrow, hn2, fun x hx => Nat.lt_of_lt_of_le (hlt2 x hx) hg.size, fun x hx => ⟨hne x hx, fun hm => by have := hge2 x hx; have := hF _ hm; omega⟩, fun _ => rfl⟩

theorem Blk.new (w : World) (T : Nat) (xs : List Value) : Blk (w.alloc (.cells xs.toArray T)) w.heap.size T xs := by
  unfold Blk World.alloc
  simp

set_option maxHeartbeats 400000 in
theorem NewReader_any (a : Option Addr) (len cap : Nat) (l : List (BitVec 8)) (w : World) (hl : l.length = len) (hle : len ≤ cap) (hr : Row w a l) (hn : a = none → cap = 0) (hlen : len ≤ 140737488351232) :
    Calls Try.prog 35 #[.slice a len cap] w fun e w' => ∃ g, e = .returned (.pointer (some ⟨g, 0, none⟩)) ∧ w.heap.size ≤ g ∧ (∀ F : List Nat, (∀ k ∈ F, k < w.heap.size) → Rd w' F g 106 l 0) ∧ Below w.heap.size w w' := by
  subst hl
  go_enter Try.func35, Try.ntmps35
  go_wp2_with fail
  refine (clone_any a l.length cap l w rfl hle hr hn (by omega)).mono ?_
  rintro e w1 ⟨v, rfl, ho, hb1⟩
  obtain ⟨a2, cap2, rfl, hle2, hm2, hr2, hn2, hg2⟩ := ho.open
  have hlt2 : ∀ x, a2 = some x → x.block < w1.heap.size := fun x hx => by subst hx; exact (World.ownsRow.lt ho x.block rfl).2
  have K : Hid _ := And.intro (fun F hF => Rd.made ho (Blk.new w1 106 [.slice a2 l.length cap2, .int .i64 0]) (World.grownBy_alloc _ _ none) (fun x _ => by simp) (fun x hx => by have := hlt2 x hx; omega) (by omega) F hF) (And.intro hb1.size (hb1.alloc hb1.size (.cells #[.slice a2 l.length cap2, .int .i64 0] 106)))
  clear ho hr2 hr hb1 hlt2 hg2
  go_wp2
  go_ret
  exact ⟨w1.heap.size, rfl, K.out.2.1, K.out.1, K.out.2.2⟩


end Go.Proofs.Ytdagekciipfnoaa

