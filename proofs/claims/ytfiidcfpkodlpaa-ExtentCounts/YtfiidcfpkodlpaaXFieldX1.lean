/- Appending where a writer's own bytes lie, and what stays. -/
import Derived.Test.YtfiidcfpkodlpaaXFieldQ2
import Derived.Maps.AppendAt
import Derived.Test.YtfiidcfpkodlpaaXAid
namespace Go.Proofs.Ytfiidcfpkodlpaa
open Go.RowKit

/-- v' lies where v lay, or in new memory -/
def Newer (w : World) (v v' : Value) : Prop := ∀ k, v'.ownBlock = some k → v.ownBlock = some k ∨ w.heap.size ≤ k
theorem Newer.trans {w w1 : World} {v v1 v2 : Value} (h : Newer w v v1) (k : Newer w1 v1 v2) (hs : w.heap.size ≤ w1.heap.size) : Newer w v v2 := by
  intro i hi
  rcases k i hi with e | e
  · exact h i e
  · exact .inr (by omega)
theorem Newer.none (w : World) (v : Value) : Newer w v (.slice none 0 0) := by intro k hk; simp [Value.ownBlock] at hk

theorem wpList_append_bytes_at (w : World) {ops : Array Oper} {rest : List Oper} {o : Oper} {a : Act} {Q : Exit → Act → World → Prop} (hg : o.guard = none) (s x : Operand)
    (ho : o.op = .call { callee := .builtin .append, args := #[s, x], argTypes := #[34, 34] }) (base : Nat) (v : Value) (l : List (BitVec 8)) (hs : a.eval s = v) (hown : Own w base v l)
    (ab : Option Addr) (m c : Nat) (lb : List (BitVec 8)) (hx : a.eval x = .slice ab m c) (hlb : lb.length = m) (hr : Row w ab lb) (hnil : ab = none → c = 0) (hmc : m ≤ c) (hmax : l.length + m ≤ 140737488355328) (hbase : base ≤ w.heap.size)
    (k : ∀ (v' : Value) (w' : World), Own w' base v' (l ++ lb) → w.grownBy w' v.ownBlock → Newer w v v' → wpList Try.prog ops Q rest (a.put o.dst v') w') :
    wpList Try.prog ops Q (o :: rest) a w := by
  obtain ⟨i0, hi, hz0, hz1, hz2⟩ := info_parts info_u8
  cases ab with
  | none =>
    have hc := hnil rfl
    have hm : m = 0 := by omega
    subst hc; subst hm
    have : lb = [] := List.eq_nil_of_length_eq_zero hlb
    subst this
    refine wpList_append_own_none hg s x 34 ho base 5 i0 1 Try.underlying34 hi v l.length (vals l) hs hown hx ?_
    exact k v w (by simpa using hown) ⟨rfl, rfl, rfl, Nat.le_refl _, fun _ _ _ => rfl⟩ (fun _ e => .inl e)
  | some ad =>
    refine wpList_append_own_at (w := w) hg s x 34 ho base 5 i0 (.int .u8 0) 1 1 Try.underlying34 hi hz0 hz1 hz2 rfl (by decide) v l.length (vals l) hs hown ad m c (vals lb) hx (by rw [vals_length]; omega) ?_ (vals_one lb) (by unfold maxLen; omega) (by omega) hbase ?_
    · intro j u hj
      have hjl : j < lb.length := by
        rcases Nat.lt_or_ge j lb.length with h | h
        · exact h
        · rw [List.getElem?_eq_none (by rw [vals_length]; exact h)] at hj; cases hj
      rcases hr with rfl | ⟨b, off, hb, hc⟩
      · simp at hjl
      · cases hb
        have e : (⟨b, off, none⟩ : Addr).add j = ⟨b, off + j, none⟩ := by unfold Addr.add; split <;> simp_all
        rw [e, hc j hjl, ← vals_at lb j hjl, hj]
    · intro v' w' ho' hg' _ hat
      refine k v' w' ?_ hg' ?_
      · unfold Own
        rw [vals_append, List.length_append, hlb]
        exact ho'
      · intro i hi
        rcases hat with e | e
        · exact .inl (e ▸ hi)
        · rw [e] at hi; cases hi; exact .inr (Nat.le_refl _)

set_option maxHeartbeats 400000 in
theorem numberTo_at (v : Value) (base : Nat) (l : List (BitVec 8)) (size : Nat) (x : BitVec 64) (w : World) (ho : Own w base v l) (hbase : base ≤ w.heap.size) (hl : l.length ≤ 140737488351232) (h1 : 1 ≤ size) (h2 : size ≤ 8) :
    Calls Try.prog 41 #[v, .int .i64 size, .int .u64 (x.toNat : Int)] w fun e w' => ∃ v', e = .returned v' ∧ Own w' base v' (l ++ be size x) ∧ w.grownBy w' v.ownBlock ∧ Newer w v v' := by
  have q3 := slice8 (w.heap.size + 1 + 1) size h1 h2
  have hrow := be_row w x size
  have hbl := be_length size x h2
  obtain ⟨b0, b1, b2, b3, b4, b5, b6, b7, hX, hV⟩ := X8_lit x
  rw [hX] at hrow
  have hb3 : Below w.heap.size w (((w.alloc (.cells #[.int .u8 b0, .int .u8 b1, .int .u8 b2, .int .u8 b3, .int .u8 b4, .int .u8 b5, .int .u8 b6, .int .u8 b7] 92)).alloc (.cells #[.int .u8 b0, .int .u8 b1, .int .u8 b2, .int .u8 b3, .int .u8 b4, .int .u8 b5, .int .u8 b6, .int .u8 b7] 92)).alloc (.cells #[.int .u8 b0, .int .u8 b1, .int .u8 b2, .int .u8 b3, .int .u8 b4, .int .u8 b5, .int .u8 b6, .int .u8 b7] 92)) := (((Below.refl _ _).alloc (Nat.le_refl _) _).alloc (by simp) _).alloc (by simp; omega) _
  have hg3 : w.grownBy (((w.alloc (.cells #[.int .u8 b0, .int .u8 b1, .int .u8 b2, .int .u8 b3, .int .u8 b4, .int .u8 b5, .int .u8 b6, .int .u8 b7] 92)).alloc (.cells #[.int .u8 b0, .int .u8 b1, .int .u8 b2, .int .u8 b3, .int .u8 b4, .int .u8 b5, .int .u8 b6, .int .u8 b7] 92)).alloc (.cells #[.int .u8 b0, .int .u8 b1, .int .u8 b2, .int .u8 b3, .int .u8 b4, .int .u8 b5, .int .u8 b6, .int .u8 b7] 92)) v.ownBlock := grown_trans (grown_trans (World.grownBy_alloc _ _ _) (World.grownBy_alloc _ _ _)) (World.grownBy_alloc _ _ _)
  have ho3 := ho.later hb3
  have R : Hid _ := And.intro hrow (And.intro ho3 (And.intro hbl (And.intro hg3 hb3.size)))
  have H8 : Hid _ := hX
  clear hV hX hrow hb3 ho3 hbl hg3
  go_enter Try.func41, Try.ntmps41
  go_wp2_with fail
  refine (bytesOf_any x _).mono ?_
  rintro e w2 ⟨rfl, rfl⟩
  rw [H8.out]
  go_wp2_with (at_builtin; refine wpList_append_bytes_at _ rfl _ _ rfl base v l rfl R.out.2.1 (some ⟨w.heap.size + 1 + 1, 8 - size, none⟩) size size (be size x) rfl R.out.2.2.1 R.out.1 (fun h => by cases h) (Nat.le_refl _) (by omega) (Nat.le_trans hbase R.out.2.2.2.2) ?_)
  intro v' w' ho' hg' hn'
  have F : Hid _ := And.intro ho' (And.intro (grown_trans R.out.2.2.2.1 hg') (Newer.trans (w := w) (v := v) (fun _ e => .inl e) hn' R.out.2.2.2.2))
  clear ho' hg' R q3 hn'
  go_wp2
  go_ret
  exact ⟨v', rfl, F.out.1, F.out.2.1, F.out.2.2⟩


end Go.Proofs.Ytfiidcfpkodlpaa

