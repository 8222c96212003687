/- Slices of things of a fixed size, in a part of a block of the call's own. -/
import Derived.Test.YtfcaaljehhibgaaXWo5
import Derived.Deep.Upon
namespace Go.Proofs.Ytfcaaljehhibgaa
open Go.RowKit
set_option linter.unusedVariables false
set_option maxRecDepth 4000

/-- a kind of things: its type, its slices' type, how many cells, how many bytes, its zero, a thing as cells -/
structure Kd (α : Type) where
  E : TypeId
  T : TypeId
  s : Nat
  bs : Nat
  z : Value
  f : α → List Value
structure Kd.Ok {α : Type} (K : Kd α) : Prop where
  pos : 0 < K.s
  len : ∀ x, (K.f x).length = K.s
  one : ∀ x, ∀ u ∈ K.f x, u.oneCell' = true
  und : Try.prog.underlying K.T = some (.slice K.E)
  info : (Try.prog.info? K.E).map (fun i => (i.zero, i.size, i.bytes)) = some (some K.z, K.s, K.bs)
  zs : K.z.cells.size = K.s
  few : K.bs ≤ 1000
section
variable {α : Type} {K : Kd α} {w w' : World} {v x : Value} {q : Option Nat} {l m : List α}
def Kd.cs (K : Kd α) (l : List α) : List Value := l.flatMap K.f
theorem Kd.cs_append (l m : List α) : K.cs (l ++ m) = K.cs l ++ K.cs m := List.flatMap_append
theorem Kd.cs_cons (a : α) (l : List α) : K.cs (a :: l) = K.f a ++ K.cs l := List.flatMap_cons
theorem Kd.cs_length (hK : K.Ok) (l : List α) : (K.cs l).length = l.length * K.s := by
  induction l with
  | nil => simp [Kd.cs]
  | cons h l ih => rw [Kd.cs_cons, List.length_append, ih, hK.len, List.length_cons, Nat.add_mul]; omega
theorem Kd.cs_drop (hK : K.Ok) (l : List α) (k : Nat) : (K.cs l).drop (k * K.s) = K.cs (l.drop k) := by
  induction k generalizing l with
  | zero => simp
  | succ k ih =>
    cases l with
    | nil => simp [Kd.cs]
    | cons h l =>
      rw [Kd.cs_cons, Nat.add_mul, Nat.one_mul, Nat.add_comm, List.drop_append, List.drop_of_length_le (by rw [hK.len]; omega), hK.len, List.nil_append, Nat.add_sub_cancel_left, ih]
      rfl
theorem Kd.cs_take (hK : K.Ok) (l : List α) (k : Nat) : (K.cs l).take (k * K.s) = K.cs (l.take k) := by
  induction k generalizing l with
  | zero => simp [Kd.cs]
  | succ k ih =>
    cases l with
    | nil => simp [Kd.cs]
    | cons h l =>
      rw [Kd.cs_cons, Nat.add_mul, Nat.one_mul, Nat.add_comm, List.take_append, List.take_of_length_le (by rw [hK.len]; omega), hK.len, Nat.add_sub_cancel_left, ih, List.take_succ_cons, Kd.cs_cons]
theorem Kd.cs_one (hK : K.Ok) (l : List α) : ∀ u ∈ K.cs l, u.oneCell' = true := by
  intro u hu
  obtain ⟨r, _, hr⟩ := List.mem_flatMap.1 hu
  exact hK.one r u hr
theorem Kd.cs_at (hK : K.Ok) (l : List α) (i j : Nat) (hi : i < l.length) (hj : j < K.s) : (K.cs l)[i * K.s + j]? = (K.f l[i])[j]? := by
  rw [← List.getElem?_drop, Kd.cs_drop hK, List.drop_eq_getElem_cons hi, Kd.cs_cons, List.getElem?_append_left (by rw [hK.len]; exact hj)]
/-- things that are only read -/
def GAt (K : Kd α) (w : World) (x : Value) (m : List α) : Prop :=
  ∃ a c, x = .slice a m.length c ∧ m.length ≤ c ∧ (a = none → m = [] ∧ c = 0) ∧ ∀ ad, a = some ad → ∀ j u, (K.cs m)[j]? = some u → w.cell? (ad.add j) = some u
/-- things of the call's own -/
def GSl (K : Kd α) (w : World) (v : Value) (q : Option Nat) (l : List α) : Prop :=
  (q = none ∧ v = .slice none 0 0 ∧ l = []) ∨
  ∃ b off cap cur, q = some b ∧ v = .slice (some ⟨b, off, none⟩) l.length cap ∧ Blk w b K.E cur ∧ off + cap * K.s ≤ cur.length ∧ l.length ≤ cap ∧ cap ≤ maxLen ∧ (cur.drop off).take (l.length * K.s) = K.cs l
theorem GSl.nil (K : Kd α) (w : World) : GSl K w (.slice none 0 0) none [] := .inl ⟨rfl, rfl, rfl⟩
theorem GSl.same (h : GSl K w v q l) (hb : ∀ k, q = some k → w'.heap[k]? = w.heap[k]?) : GSl K w' v q l := by
  rcases h with h | ⟨b, off, cap, cur, h1, h2, h3, h4⟩
  · exact .inl h
  · exact .inr ⟨b, off, cap, cur, h1, h2, by unfold Blk at *; rw [hb b h1]; exact h3, h4⟩
theorem GSl.lt (h : GSl K w v q l) (k : Nat) (hk : q = some k) : k < w.heap.size := by
  rcases h with ⟨h, -⟩ | ⟨b, off, cap, cur, h1, h2, h3, h4⟩
  · rw [h] at hk; cases hk
  · rw [h1] at hk; cases hk; exact h3.lt
theorem GSl.later (h : GSl K w v q l) (hb : Below w.heap.size w w') : GSl K w' v q l := h.same (fun k hk => hb.block k (h.lt k hk))
theorem GSl.turned {R : Nat → Prop} (h : GSl K w v q l) (ht : Turned R w w') (hr : ∀ k, q = some k → ¬ R k) : GSl K w' v q l := h.same (fun k hk => ht.block k (h.lt k hk) (hr k hk))
theorem cur_at {cur : List Value} {off n : Nat} {A : List Value} (h : (cur.drop off).take n = A) (hA : A.length = n) (j : Nat) (hj : j < n) : cur[off + j]? = A[j]? := by
  rw [← h, List.getElem?_take, if_pos hj, List.getElem?_drop]
theorem GSl.cell (hK : K.Ok) (h : GSl K w v q l) : ∃ a c, v = .slice a l.length c ∧ l.length ≤ c ∧ c ≤ maxLen ∧ ∀ i (hi : i < l.length), ∃ b off, a = some ⟨b, off, none⟩ ∧ q = some b ∧ ∀ j, j < K.s → w.cell? ⟨b, off + (i * K.s + j), none⟩ = (K.f l[i])[j]? := by
  rcases h with ⟨rfl, rfl, rfl⟩ | ⟨b, off, cap, cur, h1, h2, h3, h4, h5, h6, h7⟩
  · exact ⟨none, 0, rfl, by simp, by simp, (fun i hi => by simp at hi)⟩
  · refine ⟨_, cap, h2, h5, h6, fun i hi => ⟨b, off, rfl, h1, fun j hj => ?_⟩⟩
    rw [blk_at h3, cur_at h7 (Kd.cs_length hK l) _ (by have : (i + 1) * K.s ≤ l.length * K.s := Nat.mul_le_mul_right _ hi; rw [Nat.add_mul] at this; omega), Kd.cs_at hK l i j hi hj]
theorem GSl.at (hK : K.Ok) (h : GSl K w v q l) : GAt K w v l := by
  rcases h with ⟨rfl, rfl, rfl⟩ | ⟨b, off, cap, cur, h1, h2, h3, h4, h5, h6, h7⟩
  · exact ⟨none, 0, rfl, by simp, fun _ => ⟨rfl, rfl⟩, fun ad h => by cases h⟩
  · refine ⟨_, cap, h2, h5, (fun h => by cases h), fun ad h j u hj => ?_⟩
    cases h
    have hjl : j < (K.cs l).length := by
      rcases Nat.lt_or_ge j (K.cs l).length with h | h
      · exact h
      · rw [List.getElem?_eq_none h] at hj; cases hj
    rw [Kd.cs_length hK] at hjl
    rw [Addr.add_lit, blk_at h3, cur_at h7 (Kd.cs_length hK l) j hjl]; exact hj
theorem GSl.ofOwn (hK : K.Ok) {base : Nat} (h : w.ownsRow base K.E K.s v l.length (K.cs l)) : GSl K w v v.ownBlock l ∧ ∀ b, v.ownBlock = some b → base ≤ b := by
  refine ⟨?_, fun b hb => (World.ownsRow.lt h b hb).1⟩
  obtain ⟨h1, ⟨rfl, h3⟩ | ⟨g, cap, cur, rfl, hb, hh, hc, hm, hs, ht⟩⟩ := h
  · exact .inl ⟨rfl, rfl, List.eq_nil_of_length_eq_zero h3⟩
  · have hB : Blk w g K.E cur.toList := by unfold Blk; simpa using hh
    exact .inr ⟨g, 0, cap, cur.toList, rfl, rfl, hB, by simp; omega, hc, hm, by simpa using ht⟩
theorem splice_mid {cur : List Value} {off n : Nat} {A D : List Value} (hA : (cur.drop off).take n = A) (hl : A.length = n) (hfit : off + n + D.length ≤ cur.length) :
    ((splice cur (off + n) D).drop off).take (n + D.length) = A ++ D := by
  have e1 : (splice cur (off + n) D).drop off = A ++ (D ++ cur.drop (off + n + D.length)) := by
    unfold splice
    rw [List.drop_append, List.length_take, List.drop_take, show off + n - off = n by omega, hA, show off - min (off + n) cur.length = 0 by omega, List.drop_zero]
  rw [e1, List.take_append, List.take_of_length_le (by omega), hl, Nat.add_sub_cancel_left, List.take_append_of_le_length (Nat.le_refl _), List.take_length]
/-- more things, out of things that are read -/
theorem GSl.append (hK : K.Ok) (h : GSl K w v q l) (hx : GAt K w x m) (hmax : l.length + m.length ≤ 1000000) (ty : TypeId) :
    ∃ v' w' q', (Builtin.append_ #[K.T, K.T] ty #[v, x]).run Try.prog w = .ok v' w' ∧ GSl K w' v' q' (l ++ m) ∧ w.grownBy w' q ∧ ∀ b, q' = some b → q = some b ∨ w.heap.size ≤ b := by
  obtain ⟨i0, hi, hz0, hz1, hz2⟩ := info_parts hK.info
  obtain ⟨a, c, rfl, hmc, hnil, hcell⟩ := hx
  have hone := Kd.cs_one hK m
  have hln := Kd.cs_length hK m
  have hby := hK.few
  have hbytes : ∀ n, n ≤ 1000000 → n * K.bs ≤ 140737488355328 := fun n hn => Nat.le_trans (Nat.mul_le_mul hn hby) (by omega)
  have hg0 : ∀ r, w.grownBy w r := fun r => ⟨rfl, rfl, rfl, Nat.le_refl _, fun _ _ _ => rfl⟩
  cases a with
  | none =>
    obtain ⟨rfl, rfl⟩ := hnil rfl
    rw [List.append_nil]
    obtain ⟨aa, cc, hv, hle, -, -⟩ := h.cell hK
    refine ⟨v, w, q, ?_, h, hg0 _, fun b hb => .inl hb⟩
    rw [hv]
    exact run_append_nothing w K.T K.T ty K.E i0 hK.und hi aa l.length cc hle _ (Src.ofNil w hK.und 0)
  | some ad =>
    have hnews := hcell ad rfl
    rcases h with ⟨rfl, rfl, rfl⟩ | ⟨b, off, cap, cur, rfl, rfl, h3, h4, h5, h6, h7⟩
    · obtain ⟨v', w', hr, h2, h3, -, h5⟩ := run_append_own_at (P := Try.prog) w 0 K.T ty K.E i0 K.z K.s K.bs hK.und hi hz0 hz1 hz2 hK.zs hK.pos (.slice none 0 0) 0 [] (World.ownsRow_nil _ _ _ _) ad m.length c (K.cs m) hln hnews hone (by unfold maxLen; simp at hmax; omega) (hbytes _ (by simpa using hmax)) (Nat.zero_le _)
      refine ⟨v', w', v'.ownBlock, hr, (GSl.ofOwn hK (by simpa using h2)).1, h3, fun b hb => ?_⟩
      rcases h5 with e | e
      · rw [e] at hb; cases hb
      · rw [e] at hb; cases hb; exact .inr (Nat.le_refl _)
    · by_cases hroom : l.length + m.length ≤ cap
      · have hfit : off + l.length * K.s + (K.cs m).length ≤ cur.length := by
          have : (l.length + m.length) * K.s ≤ cap * K.s := Nat.mul_le_mul_right _ hroom
          rw [Nat.add_mul] at this; omega
        have hr := run_append_room_cells (P := Try.prog) w K.T ty K.E i0 hK.und hi b off l.length cap ad m.length c (K.cs m) (by rw [hz1]; exact hln) hnews hone hroom
          (fun j hj => by rw [hz1, blk_at h3, List.getElem?_eq_getElem (by omega)]; rfl) (fun j hj => blk_frozen h3 _)
        rw [hz1] at hr
        obtain ⟨B1, g1⟩ := Blk.setCells (K.cs m) (off + l.length * K.s) w cur h3 hfit
        refine ⟨_, _, some b, hr, .inr ⟨b, off, cap, _, rfl, by simp, B1, ?_, by simp; omega, h6, ?_⟩, g1, fun c hc => .inl hc⟩
        · rw [length_splice _ _ _ (by omega)]; exact h4
        · have := splice_mid h7 (Kd.cs_length hK l) (D := K.cs m) (by omega)
          rw [hln, ← Nat.add_mul] at this
          rw [List.length_append, this, Kd.cs_append]
      · have holds : ∀ j y, (K.cs l)[j]? = some y → w.cell? ((⟨b, off, none⟩ : Addr).add j) = some y := by
          have hA : GAt K w (.slice (some ⟨b, off, none⟩) l.length cap) l := GSl.at hK (.inr ⟨b, off, cap, cur, rfl, rfl, h3, h4, h5, h6, h7⟩)
          obtain ⟨a', c', e', _, _, h'⟩ := hA
          cases e'
          exact h' _ rfl
        obtain ⟨v', w', hr, ho, hg⟩ := run_append_arg_grows (P := Try.prog) w K.T ty K.E i0 K.z K.s K.bs hK.und hi hz0 hz1 hz2 hK.zs hK.pos ⟨b, off, none⟩ l.length cap (K.cs l) (Kd.cs_length hK l) holds ad m.length c (K.cs m) hln hnews (by omega) (by unfold maxLen; omega) (hbytes _ hmax)
        have hN := GSl.ofOwn hK (l := l ++ m) (by rw [Kd.cs_append, List.length_append]; exact ho)
        exact ⟨v', w', v'.ownBlock, hr, hN.1, grown_none hg _, fun c hc => .inr (hN.2 c hc)⟩
/-- all but the first one -/
theorem GSl.tail (hK : K.Ok) {y : α} (h : GSl K w v q (y :: l)) : ∃ b off cap, v = .slice (some ⟨b, off, none⟩) (l.length + 1) cap ∧ l.length + 1 ≤ cap ∧ q = some b ∧ (∀ j, j < K.s → w.cell? ⟨b, off + j, none⟩ = (K.f y)[j]?) ∧ GSl K w (.slice (some ⟨b, off + K.s, none⟩) l.length (cap - 1)) q l ∧ (cap = 1 → GSl K w (.slice (some ⟨b, off, none⟩) l.length (cap - 1)) q l) := by
  rcases h with ⟨_, _, h⟩ | ⟨b, off, cap, cur, rfl, rfl, h3, h4, h5, h6, h7⟩
  · cases h
  · rw [List.length_cons] at h5 h7
    have hc1 : 1 ≤ cap := by omega
    have hcs : (cap - 1) * K.s + K.s = cap * K.s := by rw [← Nat.succ_mul]; congr 1; omega
    have hd : ((cur.drop (off + K.s)).take (l.length * K.s)) = K.cs l := by
      have := congrArg (List.drop K.s) h7
      have e1 : (K.f y).drop K.s = [] := List.drop_of_length_le (by rw [hK.len]; omega)
      rw [Kd.cs_cons, List.drop_append, e1, hK.len, Nat.sub_self, List.drop_zero, List.nil_append, List.drop_take, List.drop_drop] at this
      rw [show (l.length + 1) * K.s - K.s = l.length * K.s by rw [Nat.succ_mul]; omega] at this
      exact this
    refine ⟨b, off, cap, rfl, h5, rfl, fun j hj => ?_, .inr ⟨b, off + K.s, cap - 1, cur, rfl, rfl, h3, by omega, by omega, by omega, hd⟩, fun e => ?_⟩
    · have hlen := Kd.cs_length hK (y :: l)
      rw [List.length_cons] at hlen
      rw [blk_at h3, cur_at h7 hlen j (by rw [Nat.succ_mul]; omega), Kd.cs_cons, List.getElem?_append_left (by rw [hK.len]; exact hj)]
    · have : l = [] := List.eq_nil_of_length_eq_zero (by omega)
      subst this
      exact .inr ⟨b, off, cap - 1, cur, rfl, rfl, h3, by subst e; simp; omega, by simp, by omega, by simp [Kd.cs]⟩
end
end Go.Proofs.Ytfcaaljehhibgaa

