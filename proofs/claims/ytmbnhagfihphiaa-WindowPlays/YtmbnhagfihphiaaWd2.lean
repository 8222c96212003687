/- Commands are looked for, and taken out. -/
import Derived.Test.YtmbnhagfihphiaaWd1
namespace Go.Proofs.Ytmbnhagfihphiaa
open Go.RowKit
set_option linter.unusedVariables false
set_option linter.unusedSimpArgs false
set_option maxRecDepth 4000

set_option maxHeartbeats 400000 in
theorem wHas1_any (c : Cm) (n : BitVec 32) (rb : Nat) (w : World) (hB : w.cell? ⟨rb, 0, none⟩ = some (.int .u32 (n.toNat : Int))) :
    Calls Try.prog 32 #[.agg #[.int .u32 (c.1.toNat : Int), .bool c.2.1, .int .i64 c.2.2], .pointer (some ⟨rb, 0, none⟩)] w fun e w' => e = .returned (.bool (decide (c.1 = n))) ∧ Below w.heap.size w w' := by
  have b2 : Below w.heap.size w (w.alloc (.cells #[.int .u32 (c.1.toNat : Int), .bool c.2.1, .int .i64 c.2.2] 54)) := (Below.refl _ _).alloc (Nat.le_refl _) _
  have M := Blk.new' w 54 [.int .u32 (c.1.toNat : Int), .bool c.2.1, .int .i64 c.2.2]
  have k0 := blk_at M 0
  simp at k0
  have k1 := cell_later b2 hB
  have F : Hid _ := b2
  have E : Hid (decide ((c.1.toNat : Int) = (n.toNat : Int)) = decide (c.1 = n)) := (show decide ((c.1.toNat : Int) = (n.toNat : Int)) = decide (c.1 = n) from by
    congr 1
    exact propext ⟨fun h => BitVec.eq_of_toNat_eq (by omega), fun h => by rw [h]⟩)
  clear b2 M hB
  go_enter Try.func32, Try.ntmps32
  go_wp2
  go_ret
  exact ⟨ret_bool (by first | exact E.out | (rw [← E.out]; simp)), F.out⟩
set_option maxHeartbeats 400000 in
theorem wHas_any (n : BitVec 32) (w : World) :
    Calls Try.prog 29 #[.int .u32 (n.toNat : Int)] w fun e w' => e = .returned (.func (.func 32) #[] #[.pointer (some ⟨w.heap.size, 0, none⟩)]) ∧ Blk w' w.heap.size 22 [.int .u32 (n.toNat : Int)] ∧ Below w.heap.size w w' := by
  have b2 : Below w.heap.size w (w.alloc (.cells #[.int .u32 (n.toNat : Int)] 22)) := (Below.refl _ _).alloc (Nat.le_refl _) _
  have M := Blk.new' w 22 [.int .u32 (n.toNat : Int)]
  have F : Hid _ := And.intro M b2
  clear b2 M
  go_enter Try.func29, Try.ntmps29
  go_wp2
  go_ret
  exact ⟨rfl, F.out⟩
/-- where the command of the number n stands: -1, if nowhere -/
structure IxIs (l : List Cm) (n : BitVec 32) (i : Int) : Prop where
  is : (i = -1 ∧ ∀ x ∈ l, ¬ x.1 = n) ∨ ∃ k : Nat, i = k ∧ ∃ h : k < l.length, l[k].1 = n ∧ ∀ x ∈ l.take k, ¬ x.1 = n
set_option maxHeartbeats 1000000 in
theorem wIndex_any (v : Value) (q : Option Nat) (l : List Cm) (rb : Nat) (n : BitVec 32) (w : World) (ho : GSl kCmd w v q l) (hl : l.length ≤ 20000) (hB : Blk w rb 22 [.int .u32 (n.toNat : Int)]) :
    Calls Try.prog 30 #[v, .func (.func 32) #[] #[.pointer (some ⟨rb, 0, none⟩)]] w fun e w' => (∃ i : Int, e = .returned (.int .i64 i) ∧ IxIs l n i) ∧ Below w.heap.size w w' := by
  obtain ⟨va, vc, rfl, hvc, -, hcs⟩ := ho.cell kCmd_ok
  have HA : Hid _ := And.intro hcs hB
  clear ho hcs hB
  go_enter Try.func30, Try.ntmps30
  go_wp2_with fail
  go_loopw [8] (fun iv wr => ∃ (k : Nat), iv = .int .i64 k ∧ k ≤ l.length ∧ (∀ x ∈ l.take k, ¬ x.1 = n) ∧ Below w.heap.size w wr) (fun iv _ => l.length - (intOf iv).toNat)
  case atStart => exact ⟨0, rfl, by omega, by simp, Below.refl _ _⟩
  case round =>
    obtain ⟨k, rfl, hk, hno, hb⟩ := hrel
    by_cases hlt : k < l.length
    · obtain ⟨b, off, rfl, -, hc⟩ := HA.out.1 k hlt
      have k1 := cell_later hb (show w.cell? ⟨b, off + k * 3, none⟩ = some (.int .u32 (l[k].1.toNat : Int)) from hc 0 (by simp [kCmd]))
      have k2 := cell_later hb (show w.cell? ⟨b, off + k * 3 + 1, none⟩ = some (.bool l[k].2.1) from hc 1 (by simp [kCmd]))
      have k3 := cell_later hb (show w.cell? ⟨b, off + k * 3 + 2, none⟩ = some (.int .i64 l[k].2.2) from hc 2 (by simp [kCmd]))
      have q1 : (k : Int) < l.length := by omega
      have H1 : Hid _ := wHas1_any l[k] n rb wr (by have := (HA.out.2.laterB hb).cell (by simp [maxLen]) 0 (by simp); simpa using this)
      have hsn : l.take (k + 1) = l.take k ++ [l[k]] := List.take_succ_eq_append_getElem hlt
      have hix : l[k].1 = n → IxIs l n k := fun e => ⟨.inr ⟨k, rfl, hlt, e, hno⟩⟩
      generalize l[k] = x at *
      have G : Hid _ := And.intro hno (And.intro hb (And.intro hsn hix))
      clear hno hb hc hsn hix
      by_cases hx : x.1 = n
      · rw [decide_eq_true hx] at H1
        have HX : Hid _ := hx
        clear hx
        go_wp2_with fail
        refine (Calls.mono H1.out) ?_
        rintro e w2 ⟨rfl, b2⟩
        have F : Hid _ := below_then G.out.2.1 b2
        clear b2 H1
        go_wp2
        go_ret
        exact ⟨⟨_, rfl, G.out.2.2.2 HX.out⟩, F.out⟩
      · rw [decide_eq_false hx] at H1
        go_wp2_with fail
        refine (Calls.mono H1.out) ?_
        rintro e w2 ⟨rfl, b2⟩
        have F : Hid _ := below_then G.out.2.1 b2
        have F2 : Hid (∀ y ∈ l.take (k + 1), ¬ y.1 = n) := (show ∀ y ∈ l.take (k + 1), ¬ y.1 = n from by
          rw [G.out.2.2.1]
          intro y hy
          rcases List.mem_append.1 hy with hy | hy
          · exact G.out.1 y hy
          · rw [List.mem_singleton.1 hy]; exact hx)
        clear b2 H1 G
        go_wp2
        go_roundw
        case rel => exact ⟨k + 1, by go_num, by omega, F2.out, F.out⟩
        case measure => simp [intOf]; omega
    · have hkl : k = l.length := by omega
      subst hkl
      have F : Hid _ := And.intro (⟨.inl ⟨rfl, by simpa using hno⟩⟩ : IxIs l n (-1)) hb
      clear hno hb
      go_wp2
      go_ret
      exact ⟨⟨_, rfl, F.out.1⟩, F.out.2⟩
set_option maxHeartbeats 400000 in
theorem wContains_any (v : Value) (q : Option Nat) (l : List Cm) (rb : Nat) (n : BitVec 32) (w : World) (ho : GSl kCmd w v q l) (hl : l.length ≤ 20000) (hB : Blk w rb 22 [.int .u32 (n.toNat : Int)]) :
    Calls Try.prog 28 #[v, .func (.func 32) #[] #[.pointer (some ⟨rb, 0, none⟩)]] w fun e w' => e = .returned (.bool (l.any (fun c => decide (c.1 = n)))) ∧ Below w.heap.size w w' := by
  have H : Hid _ := wIndex_any v q l rb n w ho hl hB
  clear ho hB hl
  go_enter Try.func28, Try.ntmps28
  go_wp2_with fail
  refine (Calls.mono H.out) ?_
  rintro e w2 ⟨⟨i, rfl, hi⟩, b2⟩
  have E : Hid (decide (0 ≤ i) = l.any (fun c => decide (c.1 = n))) := (show decide (0 ≤ i) = l.any (fun c => decide (c.1 = n)) from by
    rcases hi.is with ⟨rfl, hno⟩ | ⟨k, rfl, hk, hx, -⟩
    · symm; simpa using hno
    · rw [decide_eq_true (by omega)]
      exact (List.any_eq_true.2 ⟨l[k], List.getElem_mem _, by simpa using hx⟩).symm)
  have F : Hid _ := b2
  clear b2 hi H
  go_wp2
  go_ret
  exact ⟨ret_bool E.out, F.out⟩
end Go.Proofs.Ytmbnhagfihphiaa
