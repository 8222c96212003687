/- The entry at a place; entries from a place on. -/
import Derived.Test.YtehbolkjgiedbaaEn7
namespace Go.Proofs.Ytehbolkjgiedbaa
open Go.RowKit
set_option linter.unusedVariables false

set_option maxHeartbeats 1000000 in
theorem entryOf_nil (w : World) :
    Calls Try.prog 36 #[.nilIface] w fun r w' => r = .returned (.tuple #[.agg #[.int .i64 0, .int .i64 0, .slice none 0 0], .bool false]) ∧ Below w.heap.size w w' := by
  have f1 := as_nc
  have f2 := as_np
  have A1 := box3_below w (.int .i64 0) (.int .i64 0) (.slice none 0 0) 48
  obtain ⟨y0, y1, y2⟩ := (eblk3 (Blk.new' w 48 [.int .i64 0, .int .i64 0, .slice none 0 0])).1
  have F : Hid _ := And.intro A1 (And.intro y0 (And.intro y1 y2))
  clear A1 y0 y1 y2
  go_enter Try.func36, Try.ntmps36
  go_wp2
  obtain ⟨A1, y0, y1, y2⟩ := F.out
  have e0 : (w.alloc (.cells #[.int .i64 0, .int .i64 0, .slice none 0 0] 48)) = (w.alloc (.cells [.int .i64 0, .int .i64 0, .slice none 0 0].toArray 48)) := rfl
  rw [← e0] at y0 y1 y2
  generalize w.alloc (.cells #[.int .i64 0, .int .i64 0, .slice none 0 0] 48) = w1 at *
  refine bodyPost_ret (v := .tuple #[.agg #[.int .i64 0, .int .i64 0, .slice none 0 0], .bool false]) (by simp [results, Try.results36, go_sem, y0, y1, y2]) rfl ?_
  exact ⟨rfl, A1⟩
set_option maxHeartbeats 1000000 in
theorem entryOf_floor (v : Value) (w : World) :
    Calls Try.prog 36 #[.iface 60 v] w fun r w' => r = .returned (.tuple #[.agg #[.int .i64 0, .int .i64 0, .slice none 0 0], .bool false]) ∧ Below w.heap.size w w' := by
  have f1 := as_fc
  have f2 := as_fp
  have A1 := box3_below w (.int .i64 0) (.int .i64 0) (.slice none 0 0) 48
  obtain ⟨y0, y1, y2⟩ := (eblk3 (Blk.new' w 48 [.int .i64 0, .int .i64 0, .slice none 0 0])).1
  have F : Hid _ := And.intro A1 (And.intro y0 (And.intro y1 y2))
  clear A1 y0 y1 y2
  go_enter Try.func36, Try.ntmps36
  go_wp2
  obtain ⟨A1, y0, y1, y2⟩ := F.out
  have e0 : (w.alloc (.cells #[.int .i64 0, .int .i64 0, .slice none 0 0] 48)) = (w.alloc (.cells [.int .i64 0, .int .i64 0, .slice none 0 0].toArray 48)) := rfl
  rw [← e0] at y0 y1 y2
  generalize w.alloc (.cells #[.int .i64 0, .int .i64 0, .slice none 0 0] 48) = w1 at *
  refine bodyPost_ret (v := .tuple #[.agg #[.int .i64 0, .int .i64 0, .slice none 0 0], .bool false]) (by simp [results, Try.results36, go_sem, y0, y1, y2]) rfl ?_
  exact ⟨rfl, A1⟩
/-- of any part that is an entry -/
theorem entryOf_pv (e : Ent) (w : World) (hc : canE e = true) :
    Calls Try.prog 36 #[pv e] w fun r w' => Told w w' e r ∧ Below w.heap.size w w' := by
  by_cases h : e.1 = 2
  · have hv : pv e = .iface 84 (.agg #[.int .i64 e.2.1, .int .i64 (bt e.2.2 0)]) := if_pos h
    rw [hv]
    have hl : e.2.2.length = 1 := by have := canE_kind hc; omega
    refine (entryOf_change e.2.1 (bt e.2.2 0) w (bt_bd _ _)).mono ?_
    rintro r w' ⟨k, rfl, h1, h2, h3⟩
    refine ⟨⟨some ⟨k, 0, none⟩, 1, by rw [h, hl], ?_, by omega, (fun h => by cases h), fun z hz => by cases hz; exact ⟨h1, h2.lt⟩⟩, h3⟩
    refine .inr ⟨k, 0, rfl, fun i hi => ?_⟩
    obtain rfl : i = 0 := by omega
    have := h2.cell (by simp [maxLen]) 0 (by simp)
    simpa using this
  · have hv : pv e = .iface 86 (.agg #[.int .i64 e.1, .int .i64 e.2.1, .string (str e.2.2)]) := if_neg h
    rw [hv]
    refine (entryOf_plain e.1 e.2.1 e.2.2 w).mono ?_
    rintro r w' ⟨b, c, rfl, h1, h2, h3, h4, h5⟩
    exact ⟨⟨some ⟨b, 0, none⟩, c, rfl, h4, h3, (fun h => by cases h), fun z hz => by cases hz; exact ⟨h1, h2⟩⟩, h5⟩

set_option maxHeartbeats 1000000 in
theorem enAt_in (g : Nat) (m : Lm) (n : Int) (i : Nat) (w : World) (h : Lg w g m) (hw : m.Wf) (hi : i < m.l.length) (hn : n = (m.fl : Int) + i + 1) :
    Calls Try.prog 20 #[.pointer (some ⟨g, 0, none⟩), .int .i64 n] w fun r w' => Told w w' m.l[i] r ∧ Below w.heap.size w w' := by
  have hpl := hw.place
  have hfu := hw.full
  have A1 := box3_below w (.int .i64 0) (.int .i64 0) (.slice none 0 0) 48
  have B1 : Blk (w.alloc (.cells #[.int .i64 0, .int .i64 0, .slice none 0 0] 48)) w.heap.size 48 [.int .i64 0, .int .i64 0, .slice none 0 0] := Blk.new' w _ _
  have HP := part_any g m n _ (h.later A1) hw (by unfold I64; omega)
  rw [(Lm.part_in hi hn).1] at HP
  have HE := entryOf_pv m.l[i] (w.alloc (.cells #[.int .i64 0, .int .i64 0, .slice none 0 0] 48)) (hw.each _ (List.getElem_mem hi))
  generalize m.l[i] = en at *
  have s1 : (w.alloc (.cells #[.int .i64 0, .int .i64 0, .slice none 0 0] 48)).heap.size = w.heap.size + 1 := by simp
  have HX : Hid _ := And.intro A1 (And.intro B1 s1)
  clear A1 B1 s1 h hw hpl hfu hn
  generalize pv en = P at *
  go_enter Try.func20, Try.ntmps20
  go_wp2_with (go_at_call 31; refine HP.mono ?_; rintro e w' ⟨rfl, rfl⟩)
  refine HE.mono ?_
  rintro e w3 ⟨⟨x, c, rfl, hr, hc, hx, hz⟩, b3⟩
  obtain ⟨A1, B1, s1⟩ := HX.out
  have B3 := B1.laterB b3
  have A := below_then A1 b3
  obtain ⟨⟨z0, z1, z2⟩, g0, g1, g2⟩ := eblk3 B3
  have HK : Hid _ := And.intro (fun x y z : Value => eset3 B3 x y z w.heap.size w A (Nat.le_refl _) A.size) (And.intro hr (And.intro hz s1))
  clear A1 B1 B3 A b3 hr hz HX HP HE s1
  go_wp2
  obtain ⟨hk, hr, hz, s1⟩ := HK.out
  have H1 := hk (.int .i64 en.1) (.int .i64 en.2.1) (.slice x en.2.2.length c)
  have hsz := eset3_size w3 w.heap.size (.int .i64 en.1) (.int .i64 en.2.1) (.slice x en.2.2.length c)
  have hbl := fun k hk => eset3_block w3 w.heap.size (.int .i64 en.1) (.int .i64 en.2.1) (.slice x en.2.2.length c) k hk
  generalize ((w3.setCell ⟨w.heap.size, 0, none⟩ (.int .i64 en.1)).setCell ⟨w.heap.size, 1, none⟩ (.int .i64 en.2.1)).setCell ⟨w.heap.size, 2, none⟩ (.slice x en.2.2.length c) = wf at *
  obtain ⟨⟨y0, y1, y2⟩, -⟩ := eblk3 H1.1
  refine bodyPost_ret (v := .tuple #[.agg #[.int .i64 en.1, .int .i64 en.2.1, .slice x en.2.2.length c], .bool true]) (by simp [results, Try.results20, go_sem, y0, y1, y2]) rfl ?_
  exact ⟨⟨x, c, rfl, hr.stay (fun y hy => hbl _ (by have := (hz y hy).1; omega)), hc, hx, fun z hz' => by have := hz z hz'; omega⟩, H1.2⟩
set_option maxHeartbeats 1000000 in
theorem enAt_no (g : Nat) (m : Lm) (n : Int) (w : World) (h : Lg w g m) (hw : m.Wf) (hn : I64 n) (ho : n ≤ m.fl ∨ (m.fl : Int) + m.l.length < n) :
    Calls Try.prog 20 #[.pointer (some ⟨g, 0, none⟩), .int .i64 n] w fun r w' => r = .returned (.tuple #[.agg #[.int .i64 0, .int .i64 0, .slice none 0 0], .bool false]) ∧ Below w.heap.size w w' := by
  have A1 := box3_below w (.int .i64 0) (.int .i64 0) (.slice none 0 0) 48
  have B1 : Blk (w.alloc (.cells #[.int .i64 0, .int .i64 0, .slice none 0 0] 48)) w.heap.size 48 [.int .i64 0, .int .i64 0, .slice none 0 0] := Blk.new' w _ _
  have HP := part_any g m n _ (h.later A1) hw hn
  have HE : Calls Try.prog 36 #[m.part n] (w.alloc (.cells #[.int .i64 0, .int .i64 0, .slice none 0 0] 48)) fun r w' => r = .returned (.tuple #[.agg #[.int .i64 0, .int .i64 0, .slice none 0 0], .bool false]) ∧ Below (w.alloc (.cells #[.int .i64 0, .int .i64 0, .slice none 0 0] 48)).heap.size (w.alloc (.cells #[.int .i64 0, .int .i64 0, .slice none 0 0] 48)) w' := by
    rcases m.cases n with h1 | h1 | ⟨i, hi, h1⟩ | h1
    · rw [(Lm.part_low h1).1]; exact entryOf_nil _
    · rw [(Lm.part_fl h1).1]; exact entryOf_floor _ _
    · exact absurd ho (by omega)
    · rw [(Lm.part_high h1).1]; exact entryOf_nil _
  generalize m.part n = P at *
  have HX : Hid _ := And.intro A1 B1
  clear A1 B1 h hw hn
  go_enter Try.func20, Try.ntmps20
  go_wp2_with (go_at_call 31; refine HP.mono ?_; rintro e w' ⟨rfl, rfl⟩)
  refine HE.mono ?_
  rintro e w3 ⟨rfl, b3⟩
  obtain ⟨A1, B1⟩ := HX.out
  have B3 := B1.laterB b3
  have A := below_then A1 b3
  obtain ⟨⟨z0, z1, z2⟩, g0, g1, g2⟩ := eblk3 B3
  have HK : Hid _ := (fun x y z : Value => eset3 B3 x y z w.heap.size w A (Nat.le_refl _) A.size)
  clear A1 B1 B3 A b3 HX HP HE
  go_wp2
  have H1 := HK.out (.int .i64 0) (.int .i64 0) (.slice none 0 0)
  generalize ((w3.setCell ⟨w.heap.size, 0, none⟩ (.int .i64 0)).setCell ⟨w.heap.size, 1, none⟩ (.int .i64 0)).setCell ⟨w.heap.size, 2, none⟩ (.slice none 0 0) = wf at *
  obtain ⟨⟨y0, y1, y2⟩, -⟩ := eblk3 H1.1
  refine bodyPost_ret (v := .tuple #[.agg #[.int .i64 0, .int .i64 0, .slice none 0 0], .bool false]) (by simp [results, Try.results20, go_sem, y0, y1, y2]) rfl ?_
  exact ⟨rfl, H1.2⟩
set_option maxHeartbeats 1000000 in
theorem enAt_nil (n : Int) (w : World) :
    Calls Try.prog 20 #[.pointer none, .int .i64 n] w fun r w' => r = .returned (.tuple #[.agg #[.int .i64 0, .int .i64 0, .slice none 0 0], .bool false]) ∧ Below w.heap.size w w' := by
  have A1 := box3_below w (.int .i64 0) (.int .i64 0) (.slice none 0 0) 48
  have B1 : Blk (w.alloc (.cells #[.int .i64 0, .int .i64 0, .slice none 0 0] 48)) w.heap.size 48 [.int .i64 0, .int .i64 0, .slice none 0 0] := Blk.new' w _ _
  have HP := part_nil n (w.alloc (.cells #[.int .i64 0, .int .i64 0, .slice none 0 0] 48))
  have HE := entryOf_nil (w.alloc (.cells #[.int .i64 0, .int .i64 0, .slice none 0 0] 48))
  have HX : Hid _ := And.intro A1 B1
  clear A1 B1
  go_enter Try.func20, Try.ntmps20
  go_wp2_with (go_at_call 31; refine HP.mono ?_; rintro e w' ⟨rfl, rfl⟩)
  refine HE.mono ?_
  rintro e w3 ⟨rfl, b3⟩
  obtain ⟨A1, B1⟩ := HX.out
  have B3 := B1.laterB b3
  have A := below_then A1 b3
  obtain ⟨⟨z0, z1, z2⟩, g0, g1, g2⟩ := eblk3 B3
  have HK : Hid _ := (fun x y z : Value => eset3 B3 x y z w.heap.size w A (Nat.le_refl _) A.size)
  clear A1 B1 B3 A b3 HX HP HE
  go_wp2
  have H1 := HK.out (.int .i64 0) (.int .i64 0) (.slice none 0 0)
  generalize ((w3.setCell ⟨w.heap.size, 0, none⟩ (.int .i64 0)).setCell ⟨w.heap.size, 1, none⟩ (.int .i64 0)).setCell ⟨w.heap.size, 2, none⟩ (.slice none 0 0) = wf at *
  obtain ⟨⟨y0, y1, y2⟩, -⟩ := eblk3 H1.1
  refine bodyPost_ret (v := .tuple #[.agg #[.int .i64 0, .int .i64 0, .slice none 0 0], .bool false]) (by simp [results, Try.results20, go_sem, y0, y1, y2]) rfl ?_
  exact ⟨rfl, H1.2⟩
end Go.Proofs.Ytehbolkjgiedbaa
