/- Walks of what is cloned, and what a disk is in memory. -/
import Derived.Test.YtjfodmdijajfbaaDkW2
namespace Go.Proofs.Ytjfodmdijajfbaa
open Go.RowKit
set_option linter.unusedVariables false

theorem nil_slice (W : World) (a : Option Addr) (l c : Nat) : (binOp .eql 32 (.slice a l c) (.slice none 0 0)).run Try.prog W = .ok (.bool a.isNone) W :=
  Lib.run_eql_slice_nil W 32 5 a l c 0 0 Try.underlying32
theorem own_empty (w : World) : Own (w.alloc (.cells #[] 5)) w.heap.size (.slice (some ⟨w.heap.size, 0, none⟩) 0 0) [] :=
  ⟨by simp [vals], .inr ⟨w.heap.size, 0, #[], rfl, Nat.le_refl _, (show Blk _ _ _ [] from Blk.new' w _ []), Nat.le_refl _, by simp, by simp, by simp [vals]⟩⟩

set_option maxHeartbeats 400000 in
theorem Clone_any (a : Option Addr) (len cap : Nat) (l : List (BitVec 8)) (w : World) (hl : l.length = len) (hle : len ≤ cap) (hm : len ≤ 140737488351232) (hr : Row w a l) (hn : a = none → cap = 0) :
    Calls Try.prog 64 #[.slice a len cap] w fun e w' => ∃ v, e = .returned v ∧ Own w' w.heap.size v l ∧ Below w.heap.size w w' := by
  cases a with
  | none =>
    have hq : ∀ W : World, (binOp .eql 32 (.slice none 0 0) (.slice none 0 0)).run Try.prog W = .ok (.bool true) W := fun W => by rw [nil_slice]; rfl
    have hc0 := hn rfl
    subst hc0
    obtain rfl : len = 0 := by omega
    obtain rfl : l = [] := List.eq_nil_of_length_eq_zero hl
    go_enter Try.func64, Try.ntmps64
    go_wp2
    go_ret
    exact ⟨_, rfl, Own.nil _ _, Below.refl _ _⟩
  | some x =>
    have hb : Below w.heap.size w (w.alloc (.cells #[] 5)) := (Below.refl _ _).alloc (Nat.le_refl _) _
    have hr' := hr.later hb
    have hq : ∀ W : World, (binOp .eql 32 (.slice (some x) len cap) (.slice none 0 0)).run Try.prog W = .ok (.bool false) W := fun W => by rw [nil_slice]; rfl
    have ho := own_empty w
    go_enter Try.func64, Try.ntmps64
    go_wp2_with (at_builtin; refine wpList_append_bytes _ rfl _ _ rfl w.heap.size _ [] rfl ho (some x) len cap l rfl hl hr' hn hle (by simp; omega) (by simp) ?_)
    intro v' w' ho' hg'
    have hb' : Below w.heap.size w w' := hb.grown hg' hb.size (fun k hk => by simp [Value.ownBlock] at hk; omega)
    have F : Hid _ := And.intro ho' hb'
    clear ho' hg' hb' ho hr hr' hb
    go_wp2
    go_ret
    exact ⟨_, rfl, by simpa using F.out.1, F.out.2⟩
end Go.Proofs.Ytjfodmdijajfbaa
