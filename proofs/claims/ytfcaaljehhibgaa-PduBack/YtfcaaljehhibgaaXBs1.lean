/- Bytes in a part of a block of the call's own: appended to, cut at their front. -/
import Derived.Test.YtfcaaljehhibgaaXWo5
import Derived.Test.YtfcaaljehhibgaaXFieldP2
import Derived.Deep.Upon
namespace Go.Proofs.Ytfcaaljehhibgaa
open Go.RowKit
set_option linter.unusedVariables false
set_option linter.unusedSimpArgs false
set_option maxRecDepth 4000

def BSl (w : World) (v : Value) (q : Option Nat) (l : List (BitVec 8)) : Prop :=
  (q = none ∧ v = .slice none 0 0 ∧ l = []) ∨
  ∃ b off cap cur, q = some b ∧ v = .slice (some ⟨b, off, none⟩) l.length cap ∧ Blk w b 5 cur ∧ off + cap ≤ cur.length ∧ l.length ≤ cap ∧ cap ≤ maxLen ∧ ∀ i, i < l.length → cur[off + i]? = some (.int .u8 (bt l i))
theorem BSl.nil (w : World) : BSl w (.slice none 0 0) none [] := .inl ⟨rfl, rfl, rfl⟩
theorem BSl.same {w w' : World} {v : Value} {q : Option Nat} {l : List (BitVec 8)} (h : BSl w v q l) (hb : ∀ k, q = some k → w'.heap[k]? = w.heap[k]?) : BSl w' v q l := by
  rcases h with h | ⟨b, off, cap, cur, h1, h2, h3, h4⟩
  · exact .inl h
  · exact .inr ⟨b, off, cap, cur, h1, h2, by unfold Blk at *; rw [hb b h1]; exact h3, h4⟩
theorem BSl.lt {w : World} {v : Value} {q : Option Nat} {l : List (BitVec 8)} (h : BSl w v q l) (k : Nat) (hk : q = some k) : k < w.heap.size := by
  rcases h with ⟨h, -⟩ | ⟨b, off, cap, cur, h1, h2, h3, h4⟩
  · rw [h] at hk; cases hk
  · rw [h1] at hk; cases hk; exact h3.lt
theorem BSl.later {w w' : World} {v : Value} {q : Option Nat} {l : List (BitVec 8)} (h : BSl w v q l) (hb : Below w.heap.size w w') : BSl w' v q l := h.same (fun k hk => hb.block k (h.lt k hk))
theorem BSl.open {w : World} {v : Value} {q : Option Nat} {l : List (BitVec 8)} (h : BSl w v q l) : ∃ a c, v = .slice a l.length c ∧ l.length ≤ c ∧ c ≤ maxLen ∧ Row w a l ∧ (a = none → c = 0) ∧ (∀ x, a = some x → q = some x.block ∧ x.spot = none) := by
  rcases h with ⟨rfl, rfl, rfl⟩ | ⟨b, off, cap, cur, h1, h2, h3, h4, h5, h6, h7⟩
  · exact ⟨none, 0, rfl, by simp, by simp, .inl rfl, fun _ => rfl, fun x hx => by cases hx⟩
  · exact ⟨_, cap, h2, h5, h6, .inr ⟨b, off, rfl, fun i hi => by rw [blk_at h3]; exact h7 i hi⟩, fun h => (by cases h), fun x hx => by cases hx; exact ⟨h1, rfl⟩⟩
theorem BSl.ofOwn {w : World} {base : Nat} {v : Value} {l : List (BitVec 8)} (h : Own w base v l) : BSl w v v.ownBlock l ∧ ∀ b, v.ownBlock = some b → base ≤ b := by
  have h0 := h
  refine ⟨?_, fun b hb => (World.ownsRow.lt h b hb).1⟩
  obtain ⟨h1, ⟨rfl, h3⟩ | ⟨g, cap, cur, rfl, hb, hh, hc, hm, hs, ht⟩⟩ := h
  · exact .inl ⟨rfl, rfl, List.eq_nil_of_length_eq_zero h3⟩
  · have hB : Blk w g 5 cur.toList := by unfold Blk; simpa using hh
    refine .inr ⟨g, 0, cap, cur.toList, rfl, rfl, hB, by simp; omega, hc, hm, fun i hi => ?_⟩
    have := World.ownsRow.cellAt h0 i (by omega)
    rw [blk_at hB] at this
    rw [Nat.zero_add, this]; exact vals_at l i hi
theorem bt_append (a b : List (BitVec 8)) (i : Nat) : bt (a ++ b) i = if i < a.length then bt a i else bt b (i - a.length) := by
  unfold bt
  simp only [List.getD, List.getElem?_append]
  split <;> rfl
theorem row_cells {w : World} {a : Addr} {l : List (BitVec 8)} (hr : Row w (some a) l) : ∀ j y, (vals l)[j]? = some y → w.cell? (a.add j) = some y := fun j u hj => by
  have hjl : j < l.length := by
    rcases Nat.lt_or_ge j l.length with h | h
    · exact h
    · rw [List.getElem?_eq_none (by rw [vals_length]; exact h)] at hj; cases hj
  rcases hr with rfl | ⟨b, off, hb, hc⟩
  · simp at hjl
  · cases hb
    have e : (⟨b, off, none⟩ : Addr).add j = ⟨b, off + j, none⟩ := by unfold Addr.add; split <;> simp_all
    rw [e, hc j hjl, ← vals_at l j hjl, hj]
/-- bytes more -/
theorem BSl.append {w : World} {v : Value} {q : Option Nat} {l : List (BitVec 8)} (h : BSl w v q l) (ab : Option Addr) (m c : Nat) (lb : List (BitVec 8)) (hlb : lb.length = m) (hr : Row w ab lb) (hnil : ab = none → c = 0) (hmc : m ≤ c) (hmax : l.length + m ≤ 140737488355328) (ty : TypeId) :
    ∃ v' w' q', (Builtin.append_ #[34, 34] ty #[v, .slice ab m c]).run Try.prog w = .ok v' w' ∧ BSl w' v' q' (l ++ lb) ∧ w.grownBy w' q ∧ ∀ b, q' = some b → q = some b ∨ w.heap.size ≤ b := by
  obtain ⟨i0, hi, hz0, hz1, hz2⟩ := info_parts info_u8
  cases ab with
  | none =>
    have hc := hnil rfl
    have hm : m = 0 := by omega
    subst hc; subst hm
    have : lb = [] := List.eq_nil_of_length_eq_zero hlb
    subst this
    obtain ⟨a, c, rfl, h1, -⟩ := h.open
    refine ⟨_, w, q, run_append_nothing w 34 34 ty 5 i0 Try.underlying34 hi a l.length c h1 (.slice none 0 0) (Src.ofNil _ Try.underlying34 0), by simpa using h, ⟨rfl, rfl, rfl, Nat.le_refl _, fun _ _ _ => rfl⟩, fun b hb => .inl hb⟩
  | some ad =>
    have hnews := row_cells hr
    have hlm : (vals lb).length = m := by rw [vals_length]; exact hlb
    rcases h with ⟨rfl, rfl, rfl⟩ | ⟨b, off, cap, cur, rfl, rfl, h3, h4, h5, h6, h7⟩
    · obtain ⟨v', w', hr, h2, h3, -, h5⟩ := run_append_own_at (P := Try.prog) w 0 34 ty 5 i0 (.int .u8 0) 1 1 Try.underlying34 hi hz0 hz1 hz2 rfl (by decide) (.slice none 0 0) 0 [] (World.ownsRow_nil _ _ _ _) ad m c (vals lb) (by omega) hnews (vals_one lb) (by unfold maxLen; omega) (by omega) (Nat.zero_le _)
      refine ⟨v', w', v'.ownBlock, hr, (BSl.ofOwn (base := 0) (by unfold Own; rw [List.nil_append, hlb]; simpa using h2)).1, h3, fun b hb => ?_⟩
      rcases h5 with e | e
      · rw [e] at hb; cases hb
      · rw [e] at hb; cases hb; exact .inr (Nat.le_refl _)
    · by_cases hroom : l.length + m ≤ cap
      · have hr := run_append_room_cells (P := Try.prog) w 34 ty 5 i0 Try.underlying34 hi b off l.length cap ad m c (vals lb) (by rw [hz1]; omega) hnews (vals_one lb) hroom
          (fun j hj => by rw [hz1, blk_at h3, List.getElem?_eq_getElem (by omega)]; rfl) (fun j hj => blk_frozen h3 _)
        rw [hz1, Nat.mul_one] at hr
        obtain ⟨B1, g1⟩ := Blk.setCells (vals lb) (off + l.length) w cur h3 (by omega)
        refine ⟨_, _, some b, hr, .inr ⟨b, off, cap, _, rfl, by rw [List.length_append, hlb], B1, ?_, by rw [List.length_append]; omega, h6, ?_⟩, g1, fun c hc => .inl hc⟩
        · rw [length_splice _ _ _ (by omega)]; exact h4
        · intro i hi'
          rw [List.length_append] at hi'
          rw [bt_append, splice_at _ _ _ _ (by omega), hlm]
          by_cases hlt : i < l.length
          · rw [if_neg (by omega), if_pos hlt]; exact h7 i hlt
          · rw [if_pos ⟨by omega, by omega⟩, if_neg hlt, show off + i - (off + l.length) = i - l.length by omega]
            exact vals_at lb _ (by omega)
      · have holds : ∀ j y, (vals l)[j]? = some y → w.cell? ((⟨b, off, none⟩ : Addr).add j) = some y := row_cells (a := ⟨b, off, none⟩) (.inr ⟨b, off, rfl, fun i hi => by rw [blk_at h3]; exact h7 i hi⟩)
        obtain ⟨v', w', hr, ho, hg⟩ := run_append_arg_grows (P := Try.prog) w 34 ty 5 i0 (.int .u8 0) 1 1 Try.underlying34 hi hz0 hz1 hz2 rfl (by decide) ⟨b, off, none⟩ l.length cap (vals l) (by rw [vals_length]; omega) holds ad m c (vals lb) (by omega) hnews (by omega) (by unfold maxLen; omega) (by omega)
        have hN := BSl.ofOwn (w := w') (base := w.heap.size) (v := v') (l := l ++ lb) (by unfold Own; rw [vals_append, List.length_append, hlb]; exact ho)
        exact ⟨v', w', v'.ownBlock, hr, hN.1, grown_none hg _, fun c hc => .inr (hN.2 c hc)⟩
/-- the first k are let go -/
theorem BSl.cut {w : World} {v : Value} {q : Option Nat} {l : List (BitVec 8)} (h : BSl w v q l) (k : Nat) (hk : k ≤ l.length) (h0 : l ≠ []) : ∃ b off cap, v = .slice (some ⟨b, off, none⟩) l.length cap ∧ l.length ≤ cap ∧ BSl w (.slice (some ⟨b, off + k, none⟩) (l.length - k) (cap - k)) q (l.drop k) := by
  have hpos : 0 < l.length := List.length_pos_iff.2 h0
  rcases h with ⟨rfl, rfl, rfl⟩ | ⟨b, off, cap, cur, rfl, rfl, h3, h4, h5, h6, h7⟩
  · exact absurd rfl h0
  · refine ⟨b, off, cap, rfl, h5, .inr ⟨b, off + k, cap - k, cur, rfl, by simp, h3, by omega, by simp; omega, by omega, fun i hi => ?_⟩⟩
    simp at hi
    rw [show off + k + i = off + (k + i) by omega, h7 (k + i) (by omega)]
    unfold bt
    simp [List.getD]
end Go.Proofs.Ytfcaaljehhibgaa

