/- A log up to a place, and one with its floor there. -/
import Derived.Test.YtmcljbpemninlaaEn11
import Derived.Lib.SliceRun
namespace Go.Proofs.Ytmcljbpemninlaa
open Go.RowKit
set_option linter.unusedVariables false
set_option maxRecDepth 20000

theorem nil_parts (W : World) (a : Option Addr) (l c : Nat) : (binOp .eql 106 (.slice a l c) (.slice none 0 0)).run Try.prog W = .ok (.bool a.isNone) W :=
  Lib.run_eql_slice_nil W 106 131 a l c 0 0 Try.underlying106
theorem PsOwn.nil (w : World) (base : Nat) : PsOwn w base (.slice none 0 0) [] := World.ownsRow_nil _ _ _ _
theorem own_empty_parts (w : World) : PsOwn (w.alloc (.cells #[] 131)) w.heap.size (.slice (some ⟨w.heap.size, 0, none⟩) 0 0) [] :=
  ⟨by simp, .inr ⟨w.heap.size, 0, #[], rfl, Nat.le_refl _, (show Blk _ _ _ [] from Blk.new' w _ []), Nat.le_refl _, by simp, by simp, by simp⟩⟩
set_option maxHeartbeats 400000 in
theorem CloneParts_any (a : Option Addr) (cap : Nat) (l : List Ent) (w : World) (hle : l.length ≤ cap) (hm : l.length ≤ 5000) (hp : PsAt w a l) :
    Calls Try.prog 101 #[.slice a l.length cap] w fun e w' => ∃ v, e = .returned v ∧ PsOwn w' w.heap.size v l ∧ Below w.heap.size w w' := by
  cases a with
  | none =>
    obtain rfl : l = [] := by
      rcases hp with h | ⟨b, off, h, _⟩
      · exact h
      · cases h
    have hq : ∀ W : World, (binOp .eql 106 (.slice none 0 cap) (.slice none 0 0)).run Try.prog W = .ok (.bool true) W := fun W => by rw [nil_parts]; rfl
    go_enter Try.func101, Try.ntmps101
    go_wp2
    go_ret
    exact ⟨_, rfl, PsOwn.nil _ _, Below.refl _ _⟩
  | some x =>
    have hb : Below w.heap.size w (w.alloc (.cells #[] 131)) := (Below.refl _ _).alloc (Nat.le_refl _) _
    have hp' := PsAt.later hp hb
    have hq : ∀ W : World, (binOp .eql 106 (.slice (some x) l.length cap) (.slice none 0 0)).run Try.prog W = .ok (.bool false) W := fun W => by rw [nil_parts]; rfl
    have ho := own_empty_parts w
    have hnews : ∀ j u, (l.map pv)[j]? = some u → (w.alloc (.cells #[] 131)).cell? (x.add j) = some u := by
      intro j u hj
      rw [List.getElem?_map] at hj
      have hjl : j < l.length := by
        rcases Nat.lt_or_ge j l.length with h | h
        · exact h
        · rw [List.getElem?_eq_none h] at hj; cases hj
      rw [List.getElem?_eq_getElem hjl] at hj
      rcases hp' with h | ⟨b, off, h, hc⟩
      · rw [h] at hjl; simp at hjl
      · cases h
        have e : (⟨b, off, none⟩ : Addr).add j = ⟨b, off + j, none⟩ := by unfold Addr.add; split <;> simp_all
        rw [e, hc j hjl]; exact hj
    obtain ⟨i0, hi, hz0, hz1, hz2⟩ := info_parts info_part
    have H : Hid _ := And.intro ho (And.intro hnews hb)
    clear ho hnews hb hp hp'
    go_enter Try.func101, Try.ntmps101
    go_wp2_with (at_builtin; refine wpList_append_own_at (w := _) rfl _ _ 106 rfl w.heap.size 131 i0 .nilIface 1 16 Try.underlying106 hi hz0 hz1 hz2 rfl (by decide) _ 0 [] rfl H.out.1 x l.length cap (l.map pv) rfl (by simp) H.out.2.1 (fun y hy => by obtain ⟨e, _, rfl⟩ := List.mem_map.1 hy; exact pv_one e) (by unfold maxLen; omega) (by omega) (by simp) ?_)
    intro v' w' ho' hg' _ _
    have hb' : Below w.heap.size w w' := H.out.2.2.grown hg' H.out.2.2.size (fun k hk => by simp [Value.ownBlock] at hk; omega)
    have F : Hid _ := And.intro ho' hb'
    clear ho' hg' hb' H
    go_wp2
    go_ret
    exact ⟨_, rfl, by simpa [PsOwn] using F.out.1, F.out.2⟩

theorem placeError_nil (n : Int) (w : World) :
    Calls Try.prog 100 #[.pointer none, .int .i64 n] w fun e w' => e = .returned (.int .i64 2) ∧ w = w' := by
  go_enter Try.func100, Try.ntmps100
  go_wp2
  go_ret
  exact ⟨rfl, rfl⟩
theorem Lm.term_has {m : Lm} (hw : m.Wf) (n : Int) : (m.term n = -1) ↔ m.hasB n = false := by
  unfold Lm.hasB
  rw [decide_eq_false_iff_not]
  rcases m.cases n with h1 | h1 | ⟨i, hi, h1⟩ | h1
  · rw [(Lm.part_low h1).2]; exact ⟨fun _ => by omega, fun _ => rfl⟩
  · rw [(Lm.part_fl h1).2]; exact ⟨fun h => by omega, fun h => by omega⟩
  · rw [(Lm.part_in hi h1).2]
    have := (canE_term (hw.each _ (List.getElem_mem hi))).1
    exact ⟨fun h => by omega, fun h => by omega⟩
  · rw [(Lm.part_high h1).2]; exact ⟨fun _ => by omega, fun _ => rfl⟩
set_option maxHeartbeats 400000 in
theorem placeError_any (g : Nat) (m : Lm) (n : Int) (w : World) (h : Lg w g m) (hw : m.Wf) (hn : I64 n) :
    Calls Try.prog 100 #[.pointer (some ⟨g, 0, none⟩), .int .i64 n] w fun e w' => (m.hasB n = false → e = .returned (.int .i64 1)) ∧ (m.hasB n = true → e = .returned (.int .i64 0)) ∧ Below w.heap.size w w' := by
  have HT := enTerm_any g m n w h hw hn
  have ht := Lm.term_has hw n
  have HE : Hid _ := ht
  clear h hw hn
  by_cases c1 : m.term n = -1
  · have c2 := ht.1 c1
    rw [c1] at HT
    clear c1 ht
    go_enter Try.func100, Try.ntmps100
    go_wp2_with (go_at_call 89; refine HT.mono ?_; rintro e w' ⟨rfl, hb⟩)
    go_ret
    exact ⟨fun _ => rfl, fun h => (by rw [c2] at h; cases h), hb⟩
  · have c2 : ¬ m.hasB n = false := fun h => c1 (ht.2 h)
    generalize m.term n = t at *
    clear ht
    go_enter Try.func100, Try.ntmps100
    go_wp2_with (go_at_call 89; refine HT.mono ?_; rintro e w' ⟨rfl, hb⟩)
    go_ret
    exact ⟨fun h => absurd h c2, fun _ => rfl, hb⟩
end Go.Proofs.Ytmcljbpemninlaa
