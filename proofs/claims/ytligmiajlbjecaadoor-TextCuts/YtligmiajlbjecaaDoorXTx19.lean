/- text: stands. -/
import Derived.Test.YtligmiajlbjecaaDoorXTxA
import Derived.Test.YtligmiajlbjecaaDoorXTx5
import Derived.Test.YtligmiajlbjecaaDoorXTx15
namespace Go.Proofs.YtligmiajlbjecaaDoor
open Go.RowKit
set_option linter.unusedVariables false
set_option linter.unusedSimpArgs false
set_option maxRecDepth 8000

theorem beq_toList (a b : ByteArray) : (a.toList == b.toList) = decide (a = b) := by
  rw [ByteArray.toList_eq, ByteArray.toList_eq]
  by_cases h : a = b
  · subst h; simp
  · have h2 : ¬ a.data.toList = b.data.toList := fun e => h (by cases a; cases b; simp at e; rw [e])
    rw [beq_eq_false_iff_ne.2 h2, decide_eq_false h]
set_option maxHeartbeats 800000 in
theorem tSt1_any (c : Pr) (key : ByteArray) (rb : Nat) (w : World) (hB : w.cell? ⟨rb, 0, none⟩ = some (.string key)) :
    Calls Tryd.prog 44 #[.agg #[.string c.1, .string c.2], .pointer (some ⟨rb, 0, none⟩)] w fun e w' => e = .returned (.bool (decide (c.1 = key))) ∧ Below w.heap.size w w' := by
  have b2 : Below w.heap.size w (w.alloc (.cells #[.string c.1, .string c.2] 59)) := (Below.refl _ _).alloc (Nat.le_refl _) _
  have M := Blk.new' w 59 [.string c.1, .string c.2]
  have k0 := blk_at M 0
  simp at k0
  have k1 := cell_later b2 hB
  have F : Hid _ := b2
  have E : Hid ((c.1.toList == key.toList) = (decide (c.1 = key))) := beq_toList c.1 key
  clear b2 M hB
  go_enter Tryd.func44, Tryd.ntmps44
  go_wp2
  go_ret
  exact ⟨ret_bool (by first | exact E.out | (rw [← E.out]; simp)), F.out⟩
/-- where the pair of a key stands: -1, if nowhere -/
structure IxP (l : List Pr) (n : ByteArray) (i : Int) : Prop where
  is : (i = -1 ∧ ∀ x ∈ l, ¬ x.1 = n) ∨ ∃ k : Nat, i = k ∧ ∃ h : k < l.length, l[k].1 = n
set_option maxHeartbeats 2000000 in
theorem tIx_any (a : Option Addr) (c : Nat) (l : List Pr) (rb : Nat) (n : ByteArray) (w : World) (ho : GAt kPr w (.slice a l.length c) l) (hl : l.length ≤ 20000) (hB : w.cell? ⟨rb, 0, none⟩ = some (.string n)) :
    Calls Tryd.prog 55 #[.slice a l.length c, .func (.func 44) #[] #[.pointer (some ⟨rb, 0, none⟩)]] w fun e w' => (∃ i : Int, e = .returned (.int .i64 i) ∧ IxP l n i) ∧ Below w.heap.size w w' := by
  have HA : Hid _ := And.intro ho hB
  clear ho hB
  go_enter Tryd.func55, Tryd.ntmps55
  go_wp2_with fail
  go_loopw [8] (fun iv wr => ∃ (k : Nat), iv = .int .i64 k ∧ k ≤ l.length ∧ (∀ x ∈ l.take k, ¬ x.1 = n) ∧ Below w.heap.size w wr) (fun iv _ => l.length - (intOf iv).toNat)
  case atStart => exact ⟨0, rfl, by omega, by simp, Below.refl _ _⟩
  case round =>
    obtain ⟨k, rfl, hk, hno, hb⟩ := hrel
    by_cases hlt : k < l.length
    · obtain ⟨b, off, rfl, hc⟩ := (HA.out.1).each kPr_ok k hlt
      have k1 := cell_later hb (show w.cell? ⟨b, off + k * 2, none⟩ = some (.string l[k].1) from hc 0 (by simp [kPr]))
      have k2 := cell_later hb (show w.cell? ⟨b, off + k * 2 + 1, none⟩ = some (.string l[k].2) from hc 1 (by simp [kPr]))
      have q1 : (k : Int) < l.length := by omega
      have H1 : Hid _ := tSt1_any l[k] n rb wr (cell_later hb HA.out.2)
      have hsn : l.take (k + 1) = l.take k ++ [l[k]] := List.take_succ_eq_append_getElem hlt
      have hix : l[k].1 = n → IxP l n k := fun e => ⟨.inr ⟨k, rfl, hlt, e⟩⟩
      generalize l[k] = x at *
      have G : Hid _ := And.intro hno (And.intro hb (And.intro hsn hix))
      clear hno hb hc hsn hix
      by_cases hx : x.1 = n
      · rw [decide_eq_true hx] at H1
        have HX : Hid _ := hx
        clear hx
        go_wp2_with fail
        refine (Calls.mono H1.out) ?_
        rintro e w2 ⟨rfl, b2⟩
        have F : Hid _ := below_then G.out.2.1 b2
        clear b2 H1
        go_wp2
        go_ret
        exact ⟨⟨_, rfl, G.out.2.2.2 HX.out⟩, F.out⟩
      · rw [decide_eq_false hx] at H1
        go_wp2_with fail
        refine (Calls.mono H1.out) ?_
        rintro e w2 ⟨rfl, b2⟩
        have F : Hid _ := below_then G.out.2.1 b2
        have F2 : Hid (∀ y ∈ l.take (k + 1), ¬ y.1 = n) := (show ∀ y ∈ l.take (k + 1), ¬ y.1 = n from by
          rw [G.out.2.2.1]
          intro y hy
          rcases List.mem_append.1 hy with hy | hy
          · exact G.out.1 y hy
          · rw [List.mem_singleton.1 hy]; exact hx)
        clear b2 H1 G
        go_wp2
        go_roundw
        case rel => exact ⟨k + 1, by go_num, by omega, F2.out, F.out⟩
        case measure => simp [intOf]; omega
    · have hkl : k = l.length := by omega
      subst hkl
      have F : Hid _ := And.intro (⟨.inl ⟨rfl, by simpa using hno⟩⟩ : IxP l n (-1)) hb
      clear hno hb
      go_wp2
      go_ret
      exact ⟨⟨_, rfl, F.out.1⟩, F.out.2⟩
set_option maxHeartbeats 800000 in
theorem tHasP_any (a : Option Addr) (c : Nat) (l : List Pr) (rb : Nat) (n : ByteArray) (w : World) (ho : GAt kPr w (.slice a l.length c) l) (hl : l.length ≤ 20000) (hB : w.cell? ⟨rb, 0, none⟩ = some (.string n)) :
    Calls Tryd.prog 43 #[.slice a l.length c, .func (.func 44) #[] #[.pointer (some ⟨rb, 0, none⟩)]] w fun e w' => e = .returned (.bool (l.any (fun q => decide (q.1 = n)))) ∧ Below w.heap.size w w' := by
  have H : Hid _ := tIx_any a c l rb n w ho hl hB
  clear ho hB hl
  go_enter Tryd.func43, Tryd.ntmps43
  go_wp2_with fail
  refine (Calls.mono H.out) ?_
  rintro e w2 ⟨⟨i, rfl, hi⟩, b2⟩
  have E : Hid (decide (0 ≤ i) = l.any (fun q => decide (q.1 = n))) := (show decide (0 ≤ i) = l.any (fun q => decide (q.1 = n)) from by
    rcases hi.is with ⟨rfl, hno⟩ | ⟨k, rfl, hk, hx⟩
    · symm; simpa using hno
    · rw [decide_eq_true (by omega)]
      exact (List.any_eq_true.2 ⟨l[k], List.getElem_mem _, by simpa using hx⟩).symm)
  have F : Hid _ := b2
  clear b2 hi H
  go_wp2
  go_ret
  exact ⟨ret_bool E.out, F.out⟩
set_option maxHeartbeats 800000 in
theorem tStands_any (a : Option Addr) (c : Nat) (l : List Pr) (n : ByteArray) (w : World) (ho : GAt kPr w (.slice a l.length c) l) (hl : l.length ≤ 20000) :
    Calls Tryd.prog 34 #[.slice a l.length c, .string n] w fun e w' => e = .returned (.bool (l.any (fun q => decide (q.1 = n)))) ∧ Below w.heap.size w w' := by
  have b2 : Below w.heap.size w (w.alloc (.cells #[.string n] 9)) := (Below.refl _ _).alloc (Nat.le_refl _) _
  have M : (w.alloc (.cells #[.string n] 9)).cell? ⟨w.heap.size, 0, none⟩ = some (.string n) := blk_at (Blk.new' w 9 [.string n]) 0
  have H : Hid _ := tHasP_any a c l w.heap.size n _ (gat_later b2 ho) hl M
  have F : Hid _ := b2
  clear b2 M ho hl
  go_enter Tryd.func34, Tryd.ntmps34
  go_wp2_with fail
  refine (Calls.mono H.out) ?_
  rintro e w2 ⟨rfl, b3⟩
  have F2 : Hid _ := below_then F.out b3
  clear b3 H F
  go_wp2
  go_ret
  exact ⟨rfl, F2.out⟩
end Go.Proofs.YtligmiajlbjecaaDoor

