/- Where a number stands; a number that goes. -/
import Derived.Test.YtjelbekjmfnenaaRd5
import Derived.Test.YtjelbekjmfnenaaNs1
namespace Go.Proofs.Ytjelbekjmfnenaa
open Go.RowKit Go.Shelf
set_option linter.unusedVariables false
set_option linter.unusedSimpArgs false
set_option maxRecDepth 4000

theorem idx_first {L : List Int} {x : Int} {i : Nat} (h : L[i]? = some x) (hn : ∀ y ∈ L.take i, ¬ y = x) : L.idxOf x = i := by
  induction L generalizing i with
  | nil => simp at h
  | cons z L ih =>
    cases i with
    | zero => simp at h; subst h; simp
    | succ i =>
      have hz : ¬ z = x := hn z (by simp)
      rw [List.idxOf_cons]
      simp only [List.getElem?_cons_succ] at h
      have := ih h (fun y hy => hn y (by simp [hy]))
      have hb : (z == x) = false := by simpa using hz
      rw [this, hb]
      rfl
structure PlaceAt (L : List Int) (x kk : Int) : Prop where
  is : (kk = -1 ∧ x ∉ L) ∨ (kk = (L.idxOf x : Int) ∧ x ∈ L)
set_option maxHeartbeats 1000000 in
theorem place_any (v : Value) (q : Option Nat) (L : List Int) (x : Int) (w : World) (h : NSl w v q L) (hl : L.length ≤ 1000) :
    Calls Try.prog 33 #[v, .int .i64 x] w fun e w' => (∃ kk, e = .returned (.int .i64 kk) ∧ PlaceAt L x kk) ∧ w = w' := by
  obtain ⟨va, vc, rfl, hvc, hvm, hcs⟩ := h.open
  have HC : Hid _ := hcs
  clear hcs h
  go_enter Try.func33, Try.ntmps33
  go_wp2_with fail
  go_loopw [5] (fun iv wr => ∃ (i : Nat), iv = .int .i64 i ∧ i ≤ L.length ∧ (∀ y ∈ L.take i, ¬ y = x) ∧ w = wr) (fun iv _ => L.length - (intOf iv).toNat)
  case atStart => exact ⟨0, rfl, by omega, by simp, rfl⟩
  case round =>
    obtain ⟨i, rfl, hi, hno, rfl⟩ := hrel
    by_cases hlt : i < L.length
    · obtain ⟨b, off, rfl, -, k1⟩ := HC.out i hlt
      have q1 : (i : Int) < L.length := by omega
      have hsn : L.take (i + 1) = L.take i ++ [L[i]] := List.take_succ_eq_append_getElem hlt
      by_cases hx : L[i] = x
      · have R : Hid (PlaceAt L x i) := ⟨.inr ⟨by rw [idx_first (by rw [List.getElem?_eq_getElem hlt, hx]) hno], by rw [← hx]; exact List.getElem_mem _⟩⟩
        rw [hx] at k1
        clear hno hsn hx
        go_wp2
        go_ret
        first | exact ⟨⟨_, rfl, R.out⟩, rfl⟩ | exact ⟨⟨_, rfl, R.out⟩, trivial⟩ | exact ⟨_, rfl, R.out⟩
      · have R : Hid (∀ y ∈ L.take (i + 1), ¬ y = x) := by
          rw [hsn]
          intro y hy
          rcases List.mem_append.1 hy with hy | hy
          · exact hno y hy
          · rw [List.mem_singleton.1 hy]; exact hx
        generalize L[i] = z at *
        clear hno hsn
        go_wp2
        go_roundw
        case rel => exact ⟨i + 1, by go_num, by omega, R.out, by first | rfl | trivial⟩
        case measure => simp [intOf]; omega
    · obtain rfl : i = L.length := by omega
      have R : Hid (PlaceAt L x (-1)) := ⟨.inl ⟨rfl, fun e => hno x (by simpa using e) rfl⟩⟩
      clear hno
      go_wp2
      go_ret
      first | exact ⟨⟨_, rfl, R.out⟩, rfl⟩ | exact ⟨⟨_, rfl, R.out⟩, trivial⟩ | exact ⟨_, rfl, R.out⟩
/-- what is left of numbers where one goes -/
theorem NSl.cut {w : World} {v : Value} {q : Option Nat} {L : List Int} (h : NSl w v q L) (n : Nat) (hn : n < L.length) (hmax : L.length ≤ 1000) :
    ∃ b off cap, v = .slice (some ⟨b, off, none⟩) L.length cap ∧ L.length ≤ cap ∧ ∀ (ap : Addr) (m c : Nat) (ty : TypeId), m = L.length - (n + 1) → (m = 0 ∨ ap = ⟨b, off + (n + 1), none⟩) →
      ∃ v' w' q', (Builtin.append_ #[33, 33] ty #[.slice (some ⟨b, off, none⟩) n n, .slice (some ap) m c]).run Try.prog w = .ok v' w' ∧ NSl w' v' q' (L.eraseIdx n) ∧ w.grownBy w' none ∧ ∀ b, q' = some b → q = some b ∨ w.heap.size ≤ b := by
  obtain ⟨i0, hi, hz0, hz1, hz2⟩ := info_parts info_n64
  rcases h with ⟨rfl, rfl, rfl⟩ | ⟨b, off, cap, cur, rfl, rfl, h3, h4, h5, h6, h7⟩
  · simp at hn
  refine ⟨b, off, cap, rfl, h5, fun ap m c ty hm hap => ?_⟩
  have hdrop : ∀ j y, (ncells (L.drop (n + 1)))[j]? = some y → w.cell? ⟨b, off + (n + 1) + j, none⟩ = some y := fun j y hj => by
    have hjl : j < (L.drop (n + 1)).length := by
      rcases Nat.lt_or_ge j (L.drop (n + 1)).length with h | h
      · exact h
      · rw [List.getElem?_eq_none (by simpa [ncells] using h)] at hj; cases hj
    rw [ncells_at _ j hjl] at hj
    simp only [List.length_drop] at hjl
    rw [blk_at h3, show off + (n + 1) + j = off + (n + 1 + j) by omega, h7 (n + 1 + j) (by omega), ← hj]
    simp
  by_cases h0 : m = 0
  · subst h0
    have hnl : n = L.length - 1 := by omega
    have hr := run_append_room_cells (P := Try.prog) w 33 ty 2 i0 Try.underlying33 hi b off n n ap 0 c [] (by simp) (by simp) (by simp) (by omega) (by simp) (by simp)
    refine ⟨_, _, some b, hr, .inr ⟨b, off, n, cur, rfl, ?_, h3, by omega, ?_, by omega, ?_⟩, ⟨rfl, rfl, rfl, Nat.le_refl _, fun _ _ _ => rfl⟩, fun c hc => .inl hc⟩
    · rw [List.length_eraseIdx, if_pos hn]
      congr 1
    · rw [List.length_eraseIdx, if_pos hn]; omega
    · intro i hi'
      rw [List.length_eraseIdx, if_pos hn] at hi'
      rw [h7 i (by omega), List.getElem_eraseIdx]
      rw [dif_pos (by omega)]
  · have hap' : ap = ⟨b, off + (n + 1), none⟩ := hap.resolve_left h0
    subst hap'
    have hldrop : (ncells (L.drop (n + 1))).length = m * 1 := by simp [ncells]; omega
    have holds : ∀ j y, (ncells (L.take n))[j]? = some y → w.cell? ((⟨b, off, none⟩ : Addr).add j) = some y := fun j y hj => by
      have hjl : j < (L.take n).length := by
        rcases Nat.lt_or_ge j (L.take n).length with h | h
        · exact h
        · rw [List.getElem?_eq_none (by simpa [ncells] using h)] at hj; cases hj
      rw [ncells_at _ j hjl] at hj
      simp only [List.length_take] at hjl
      rw [Addr.add_lit, blk_at h3, h7 j (by omega), ← hj]
      simp
    obtain ⟨v', w', hr, ho, hg⟩ := run_append_arg_grows (P := Try.prog) w 33 ty 2 i0 (.int .i64 0) 1 8 Try.underlying33 hi hz0 hz1 hz2 rfl (by decide) ⟨b, off, none⟩ n n (ncells (L.take n)) (by simp [ncells]; omega) holds ⟨b, off + (n + 1), none⟩ m c (ncells (L.drop (n + 1))) hldrop (fun j y hj => by rw [Addr.add_lit]; exact hdrop j y hj) (by omega) (by unfold maxLen; omega) (by omega)
    have he : L.take n ++ L.drop (n + 1) = L.eraseIdx n := (List.eraseIdx_eq_take_drop_succ L n).symm
    have hN := NSl.ofOwn (l := L.eraseIdx n) (base := w.heap.size) (by
      rw [← he, ncells_append]
      have : (L.take n ++ L.drop (n + 1)).length = n + m := by simp; omega
      rw [this]; exact ho)
    exact ⟨v', w', v'.ownBlock, hr, hN.1, hg, fun c hc => .inr (hN.2 c hc)⟩
end Go.Proofs.Ytjelbekjmfnenaa
