/- Bytes that a call makes itself: they are appended to, and read. -/
import Derived.Test.YtfcaaljehhibgaaXSumW2
import Derived.Test.YtfcaaljehhibgaaXWrap
import Derived.Laws.AppendOwnNone
namespace Go.Proofs.Ytfcaaljehhibgaa
open Go.RowKit

/-- bytes as cells -/
def vals (l : List (BitVec 8)) : List Value := l.map fun c => .int .u8 (c.toNat : Int)
theorem vals_append (a b : List (BitVec 8)) : vals (a ++ b) = vals a ++ vals b := List.map_append
theorem vals_length (a : List (BitVec 8)) : (vals a).length = a.length := List.length_map _
theorem vals_at (a : List (BitVec 8)) (i : Nat) (h : i < a.length) : (vals a)[i]? = some (.int .u8 (bt a i)) := by
  unfold vals bt; rw [List.getElem?_map, List.getElem?_eq_getElem h, List.getD, List.getElem?_eq_getElem h]; rfl
theorem vals_one (a : List (BitVec 8)) : ∀ u ∈ vals a, u.oneCell' = true := by
  intro u hu
  obtain ⟨c, _, rfl⟩ := List.mem_map.1 hu
  rfl

/-- v owns the bytes l, among the blocks from base on -/
def Own (w : World) (base : Nat) (v : Value) (l : List (BitVec 8)) : Prop := w.ownsRow base 5 1 v l.length (vals l)

theorem Own.nil (w : World) (base : Nat) : Own w base (.slice none 0 0) [] := World.ownsRow_nil w base _ 1
theorem Own.open {w : World} {base : Nat} {v : Value} {l : List (BitVec 8)} (h : Own w base v l) :
    ∃ a cap, v = .slice a l.length cap ∧ l.length ≤ cap ∧ cap ≤ maxLen ∧ Row w a l ∧ (a = none → cap = 0) ∧ (∀ x, a = some x → ∃ g, x = ⟨g, 0, none⟩ ∧ base ≤ g) := by
  have h0 := h
  obtain ⟨h1, h2 | ⟨g, cap, cur, rfl, hb, hh, hc, hm, hs, ht⟩⟩ := h
  · obtain ⟨rfl, hn⟩ := h2
    have : l = [] := List.eq_nil_of_length_eq_zero hn
    subst this
    exact ⟨none, 0, rfl, Nat.le_refl _, by unfold maxLen; omega, .inl rfl, fun _ => rfl, fun x hx => by cases hx⟩
  · refine ⟨some ⟨g, 0, none⟩, cap, rfl, hc, hm, .inr ⟨g, 0, rfl, fun i hi => ?_⟩, (fun h => by cases h), fun x hx => ⟨g, (Option.some.inj hx).symm, hb⟩⟩
    have := World.ownsRow.cellAt h0 i (by omega)
    rw [Nat.zero_add, this, vals_at l i hi]
theorem Own.later {w w' : World} {base : Nat} {v : Value} {l : List (BitVec 8)} (h : Own w base v l) (hb : Below w.heap.size w w') : Own w' base v l := by
  obtain ⟨h1, h2⟩ := h
  refine ⟨h1, ?_⟩
  rcases h2 with h2 | ⟨g, cap, cur, hv, hg, hh, r⟩
  · exact .inl h2
  · refine .inr ⟨g, cap, cur, hv, hg, ?_, r⟩
    have : g < w.heap.size := by
      rcases Nat.lt_or_ge g w.heap.size with h | h
      · exact h
      · rw [Array.getElem?_eq_none h] at hh; cases hh
    rw [hb.block g this]; exact hh

/-- append(v, b...) where v is the call's own -/
theorem wpList_append_bytes (w : World) {ops : Array Oper} {rest : List Oper} {o : Oper} {a : Act} {Q : Exit → Act → World → Prop} (hg : o.guard = none) (s x : Operand)
    (ho : o.op = .call { callee := .builtin .append, args := #[s, x], argTypes := #[34, 34] }) (base : Nat) (v : Value) (l : List (BitVec 8)) (hs : a.eval s = v) (hown : Own w base v l)
    (ab : Option Addr) (m c : Nat) (lb : List (BitVec 8)) (hx : a.eval x = .slice ab m c) (hlb : lb.length = m) (hr : Row w ab lb) (hnil : ab = none → c = 0) (hmc : m ≤ c) (hmax : l.length + m ≤ 140737488355328) (hbase : base ≤ w.heap.size)
    (k : ∀ (v' : Value) (w' : World), Own w' base v' (l ++ lb) → w.grownBy w' v.ownBlock → wpList Try.prog ops Q rest (a.put o.dst v') w') :
    wpList Try.prog ops Q (o :: rest) a w := by
  obtain ⟨i0, hi, hz0, hz1, hz2⟩ := info_parts info_u8
  cases ab with
  | none =>
    have hc := hnil rfl
    have hm : m = 0 := by omega
    subst hc; subst hm
    have : lb = [] := List.eq_nil_of_length_eq_zero hlb
    subst this
    refine wpList_append_own_none hg s x 34 ho base 5 i0 1 Try.underlying34 hi v l.length (vals l) hs hown hx ?_
    exact k v w (by simpa using hown) ⟨rfl, rfl, rfl, Nat.le_refl _, fun _ _ _ => rfl⟩
  | some ad =>
    refine wpList_append_own w hg s x 34 ho base 5 i0 (.int .u8 0) 1 1 Try.underlying34 hi hz0 hz1 hz2 rfl (by decide) v l.length (vals l) hs hown ad m c (vals lb) hx (by rw [vals_length]; omega) ?_ (vals_one lb) (by unfold maxLen; omega) (by omega) hbase ?_
    · intro j u hj
      have hjl : j < lb.length := by
        rcases Nat.lt_or_ge j lb.length with h | h
        · exact h
        · rw [List.getElem?_eq_none (by rw [vals_length]; exact h)] at hj; cases hj
      rcases hr with rfl | ⟨b, off, hb, hc⟩
      · simp at hjl
      · cases hb
        have e : (⟨b, off, none⟩ : Addr).add j = ⟨b, off + j, none⟩ := by unfold Addr.add; split <;> simp_all
        rw [e, hc j hjl, ← vals_at lb j hjl, hj]
    · intro v' w' ho' hg' _
      refine k v' w' ?_ hg'
      unfold Own
      rw [vals_append, List.length_append, hlb]
      exact ho'

theorem own_block {w : World} {base : Nat} {v : Value} {l : List (BitVec 8)} (h : Own w base v l) : ∀ k, v.ownBlock = some k → base ≤ k := fun k hk => (World.ownsRow.lt h k hk).1

/-- rows of bytes that stay as they are while a statement runs -/
structure Hold (Ps : List (Option Addr × List (BitVec 8))) (w0 W : World) : Prop where
  rows : ∀ p ∈ Ps, Row W p.1 p.2
  below : Below w0.heap.size w0 W
theorem Hold.later {Ps : List (Option Addr × List (BitVec 8))} {w0 W W' : World} (h : Hold Ps w0 W) (hb : Below W.heap.size W W') : Hold Ps w0 W' :=
  ⟨fun p hp => (h.rows p hp).later hb, h.below.trans (hb.mono h.below.size)⟩
theorem Hold.start {Ps : List (Option Addr × List (BitVec 8))} {w : World} (h : ∀ p ∈ Ps, Row w p.1 p.2) : Hold Ps w w.drew := ⟨h, (Below.refl _ _).drew⟩
theorem Hold.row {Ps : List (Option Addr × List (BitVec 8))} {w0 W : World} (h : Hold Ps w0 W) (a : Option Addr) (l : List (BitVec 8)) (hp : (a, l) ∈ Ps) : Row W a l := h.rows (a, l) hp
theorem below_then {w W W' : World} (h : Below w.heap.size w W) (k : Below W.heap.size W W') : Below w.heap.size w W' := h.trans (k.mono h.size)
end Go.Proofs.Ytfcaaljehhibgaa

/- Right, whatever digest is handed to it. -/
namespace Go.Proofs.Ytfcaaljehhibgaa
open Go.RowKit

theorem Right_row (a : Option Addr) (len cap : Nat) (l : List (BitVec 8)) (ad : Option Addr) (dlen dcap : Nat) (d : List (BitVec 8)) (w : World) (hl : l.length = len) (hm : len ≤ maxLen) (hr : Row w a l) (hd : d.length = dlen) (hdr : Row w ad d) :
    Calls Try.prog 59 #[.slice a len cap, .slice ad dlen dcap] w fun e w' => e = .returned (.bool (decide (d = Crc.bytes4 (Crc.sum l)))) ∧ Below w.heap.size w w' := by
  by_cases h : dlen = 4
  · subst h
    rcases hdr with rfl | ⟨b, off, rfl, hc⟩
    · simp at hd
    · exact Right_yes a len cap l b off dcap d w hl hm hr hd hc
  · have e : decide (d = Crc.bytes4 (Crc.sum l)) = false := by
      rw [decide_eq_false_iff_not]
      intro h2
      rw [h2] at hd
      exact h hd.symm
    rw [e]
    exact Right_no a len cap ad dlen dcap w h

end Go.Proofs.Ytfcaaljehhibgaa
