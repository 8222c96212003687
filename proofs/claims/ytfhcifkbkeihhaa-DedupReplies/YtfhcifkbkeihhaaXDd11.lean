/- An answer put behind all others. -/
import Derived.Test.YtfhcifkbkeihhaaXDd10
namespace Go.Proofs.Ytfhcifkbkeihhaa
open Go.RowKit
set_option linter.unusedVariables false
set_option linter.unusedSimpArgs false
set_option maxRecDepth 4000

theorem info_answer : (Try.prog.info? 75).map (fun i => (i.zero, i.size, i.bytes)) = some (some (.agg #[.int .i64 0, .int .i64 0, .string (ByteArray.mk #[])]), 3, 32) := by kernel_rfl
set_option maxHeartbeats 1000000 in
theorem insert_end (v : Value) (l : List An) (a b : Int) (s : ByteArray) (k : Nat) (w : World) (ho : AOwn w v l) (hl : l.length ≤ 1000) (hk : Blk w k 75 [.int .i64 a, .int .i64 b, .string s]) :
    Calls Try.prog 75 #[v, .int .i64 l.length, .slice (some ⟨k, 0, none⟩) 1 1] w fun e w' => ∃ v', e = .returned v' ∧ AOwn w' v' (l ++ [(a, b, s)]) ∧ w.grownBy w' v.ownBlock ∧ (v'.ownBlock = v.ownBlock ∨ v'.ownBlock = some w.heap.size) := by
  obtain ⟨i0, hi, hz0, hz1, hz2⟩ := info_parts info_answer
  have HO : Hid _ := ho
  have HK : Hid _ := hk
  obtain ⟨h1, ⟨h2, h3⟩ | ⟨g, cap, cur, rfl, hb, hh, hc, hm, hs, ht⟩⟩ := ho
  · obtain rfl : l = [] := List.eq_nil_of_length_eq_zero h3
    subst h2
    clear h1 h3 hk
    go_enter Try.func75, Try.ntmps75
    go_wp2_with (at_builtin; refine wpList_append_own_at (w := w) rfl _ _ 66 rfl 0 75 i0 (.agg #[.int .i64 0, .int .i64 0, .string (ByteArray.mk #[])]) 3 32 Try.underlying66 hi hz0 hz1 hz2 rfl (by decide) (.slice none 0 0) _ _ rfl HO.out ⟨k, 0, none⟩ 1 1 [.int .i64 a, .int .i64 b, .string s] rfl rfl ?_ ?_ (by unfold maxLen; omega) (by omega) (Nat.zero_le _) ?_)
    · intro j u hj
      rw [Addr.add_lit, Nat.zero_add, blk_at HK.out, hj]
    · intro u hu
      simp only [List.mem_cons, List.not_mem_nil, or_false] at hu
      rcases hu with rfl | rfl | rfl <;> rfl
    · intro v' w' h2 h3 _ h5
      have F : Hid _ := And.intro h2 (And.intro h3 h5)
      clear h2 h3 h5 HO HK
      go_wp2
      go_ret
      refine ⟨v', rfl, ?_, F.out.2.1, F.out.2.2⟩
      have := F.out.1
      unfold AOwn
      first | exact this | (rw [acells_append, List.length_append]; exact this)
  · have q1 : (l.length : Int) ≤ (cap : Int) := by omega
    have q2 : (l.length : Int) ≤ 1000 := by omega
    have q3 : l.length ≤ cap := by omega
    clear h1 hb hh hm hs ht hk
    go_enter Try.func75, Try.ntmps75
    go_wp2_with (at_builtin; refine wpList_append_own_at (w := w) rfl _ _ 66 rfl 0 75 i0 (.agg #[.int .i64 0, .int .i64 0, .string (ByteArray.mk #[])]) 3 32 Try.underlying66 hi hz0 hz1 hz2 rfl (by decide) (.slice (some ⟨g, 0, none⟩) l.length cap) _ _ rfl HO.out ⟨k, 0, none⟩ 1 1 [.int .i64 a, .int .i64 b, .string s] rfl rfl ?_ ?_ (by unfold maxLen; omega) (by omega) (Nat.zero_le _) ?_)
    · intro j u hj
      rw [Addr.add_lit, Nat.zero_add, blk_at HK.out, hj]
    · intro u hu
      simp only [List.mem_cons, List.not_mem_nil, or_false] at hu
      rcases hu with rfl | rfl | rfl <;> rfl
    · intro v' w' h2 h3 _ h5
      have F : Hid _ := And.intro h2 (And.intro h3 h5)
      clear h2 h3 h5 HO HK
      go_wp2
      go_ret
      refine ⟨v', rfl, ?_, F.out.2.1, F.out.2.2⟩
      have := F.out.1
      unfold AOwn
      first | exact this | (rw [acells_append, List.length_append]; exact this)
    · intro v' w' h2 h3 _ h5
      have F : Hid _ := And.intro h2 (And.intro h3 h5)
      clear h2 h3 h5 HO HK
      go_wp2
      go_ret
      refine ⟨v', rfl, ?_, F.out.2.1, F.out.2.2⟩
      have := F.out.1
      unfold AOwn
      first | exact this | (rw [acells_append, List.length_append]; exact this)
end Go.Proofs.Ytfhcifkbkeihhaa

