/- The document's disk: reads and flushes. -/
import Derived.Test.YtmhnlfgakpelkaaDkR5
namespace Go.Proofs.Ytmhnlfgakpelkaa
open Go.RowKit
set_option linter.unusedVariables false

set_option maxHeartbeats 400000 in
theorem rRead_no (g : Nat) (q r : Option Nat) (V : List Nat) (d : Dm) (a k : Int) (w : World) (h : (rdk g q r V d).Ok w) (hw : d.Wf) (ha : -9223372036854775808 ≤ a ∧ a ≤ 9223372036854775807) (hk : -9223372036854775808 ≤ k ∧ k ≤ 9223372036854775807) (hb : hasB d.n a k = false) :
    Calls Try.prog 36 #[.pointer (some ⟨g, 0, none⟩), .int .i64 a, .int .i64 k] w fun e w' => e = .returned (.tuple #[.slice none 0 0, .int .i64 1]) ∧ Below w.heap.size w w' := by
  have hh := rthere_any g q r V d a k w h hw ha hk
  rw [hb] at hh
  have HH : Hid _ := hh
  clear hh h hw
  go_enter Try.func36, Try.ntmps36
  go_wp2_with (go_at_call 45; refine (Calls.mono HH.out) ?_; rintro e w' ⟨rfl, hb1⟩)
  go_ret2
  exact ⟨rfl, hb1⟩
set_option maxRecDepth 4000 in
set_option maxHeartbeats 400000 in
theorem rRead_yes (g : Nat) (q r : Option Nat) (V : List Nat) (d : Dm) (x y : Nat) (w : World) (h : (rdk g q r V d).Ok w) (hw : d.Wf) (hgs : d.gs.length ≤ 1000000) (h1 : 1 ≤ y) (h2 : x + y ≤ d.n) :
    Calls Try.prog 36 #[.pointer (some ⟨g, 0, none⟩), .int .i64 x, .int .i64 y] w fun e w' => ∃ m cap, e = .returned (.tuple #[.slice (some ⟨m, x * 256, none⟩) (y * 256) cap, .int .i64 0]) ∧ Row w' (some ⟨m, x * 256, none⟩) (((nowOf d.safe d.gs).drop (x * 256)).take (y * 256)) ∧ Below w.heap.size w w' := by
  obtain ⟨e1, e2, e3⟩ := hw.len
  have hh := rthere_any g q r V d x y w h hw (by omega) (by omega)
  rw [show hasB d.n x y = true from decide_eq_true (by omega)] at hh
  have HH : Hid _ := hh
  have HN : Hid _ := fun (W : World) (hW : Below w.heap.size w W) => rNow_any g q r V d W (h.later hW) hw hgs
  have hl := hw.now
  clear h hw hh
  go_enter Try.func36, Try.ntmps36
  go_wp2_with (go_at_call 45; refine (Calls.mono HH.out) ?_; rintro e w1 ⟨rfl, hb1⟩)
  refine (Calls.mono (HN.out w1 hb1)) ?_
  rintro e w2 ⟨v, rfl, ho, hb2⟩
  obtain ⟨m, cm, rfl, -, -⟩ := ho.some (by omega)
  obtain ⟨a, cap, hv, hle, hm, hr, hnn, hg⟩ := ho.open
  simp only [Value.slice.injEq] at hv
  obtain ⟨rfl, -, rfl⟩ := hv
  rw [hl] at hle
  have hr' := hr.part (n := 0) (x * 256) (y * 256)
  rw [hl]
  have F : Hid _ := And.intro hr' (below_then hb1 hb2)
  have f1 : (x + y) * 256 ≤ cm := by omega
  have f2 : (x + y) * 256 ≤ d.safe.length := by omega
  have he : (x + y) * 256 - x * 256 = y * 256 := by omega
  have q1 : ((x : Int) + (y : Int)) * 256 ≤ (cm : Int) := by omega
  have q2 : (x : Int) * 256 ≤ ((x : Int) + (y : Int)) * 256 := by omega
  have q3 : (0 : Int) ≤ (x : Int) * 256 := by omega
  have q4 : ¬ cm = x * 256 := by omega
  have q5 : ¬ (cm : Int) = (x : Int) * 256 := by omega
  have q6 : (x : Int) ≤ 4096 := by omega
  have q7 : (y : Int) ≤ 4096 := by omega
  clear ho hr hr' hnn hg HH HN hl hb1 hb2
  go_wp2
  go_ret2
  exact ⟨m, cm - x * 256, by rw [← he]; rfl, F.out.1, F.out.2⟩

/-- the document's disk whose own cells turn -/
theorem rdk_turn {g : Nat} {q r : Option Nat} {V : List Nat} {d d' : Dm} {w w' : World} (h : (rdk g q r V d).Ok w) (hs : d'.safe = d.safe) (hgs : d'.gs = d.gs) (hB : ∀ x y, Blk w g 39 [x, y, .bool d.bad, .bool d.gone] → Blk w' g 39 [x, y, .bool d'.bad, .bool d'.gone])
    (hg : w.grownBy w' (some g)) : Step w w' (rdk g q r V d) (rdk g q r V d') := by
  have hT : Turned (· ∈ (rdk g q r V d).W) w w' := turned_grown hg (fun k hk => by cases hk; simp [rdk])
  obtain ⟨hn, sv, lv, S, vs, ls, hq, hr, hD⟩ := h.holds
  have nd := List.nodup_cons.1 hn
  have hne : ∀ k, k ∈ q.toList ++ r.toList ∨ k ∈ V → w'.heap[k]? = w.heap[k]? := by
    intro k hk
    refine hg.block k (h.lt k (by rcases hk with hk | hk; exact .inl (List.mem_cons_of_mem _ hk); exact .inr hk)) ?_
    intro e
    cases e
    rcases hk with hk | hk
    · exact nd.1 hk
    · exact h.apart g (by simp [rdk]) hk
  refine ⟨hT, rdk_ok ⟨hn, sv, lv, S, vs, ls, hq, hr, hB _ _ hD.blk, ?_, ?_, by rw [hs]; exact hD.join, hD.each, ?_, ?_⟩ (fun k hk => Nat.lt_of_lt_of_le (h.lt k hk) hg.size) h.apart, fun k hk => .inl hk, fun k hk => .inr (.inl hk)⟩
  · exact ownsRow_same hD.safe (fun k hk => hne k (.inl (by rw [hq] at hk; simp [hk])))
  · exact hD.secs.same (fun k hk => hne k (.inr hk)) (fun k hk => hk)
  · rw [hgs]; exact ownsRow_same hD.groups (fun k hk => hne k (.inl (by rw [hr] at hk; simp [hk])))
  · rw [hgs]; exact hD.held.same (fun k hk => hne k (.inr hk)) (fun k hk => hk)

theorem rdk_cells {g : Nat} {q r : Option Nat} {V : List Nat} {d : Dm} {w : World} (h : (rdk g q r V d).P w) : w.cell? ⟨g, 2, none⟩ = some (.bool d.bad) ∧ w.cell? ⟨g, 3, none⟩ = some (.bool d.gone) ∧ (∀ j, w.frozen? ⟨g, j, none⟩ = false) := by
  obtain ⟨hn, sv, lv, S, vs, ls, hq, hr, h⟩ := h
  have c3 := h.blk.cell (by simp [maxLen]) 2 (by simp)
  have c4 := h.blk.cell (by simp [maxLen]) 3 (by simp)
  simp only [List.getElem?_cons_succ, List.getElem?_cons_zero] at c3 c4
  exact ⟨c3, c4, h.blk.frozen (by simp [maxLen])⟩

set_option maxHeartbeats 400000 in
theorem rFlush_dead (g : Nat) (q r : Option Nat) (V : List Nat) (d : Dm) (w : World) (h : (rdk g q r V d).Ok w) (hd : d.gone = true) :
    Calls Try.prog 34 #[.pointer (some ⟨g, 0, none⟩)] w fun e w' => e = .returned (.int .i64 21) ∧ w = w' := by
  obtain ⟨c3, c4, -⟩ := rdk_cells h.holds
  rw [hd] at c4
  clear h hd
  go_enter Try.func34, Try.ntmps34
  go_wp2
  go_ret
  exact ⟨rfl, rfl⟩
set_option maxHeartbeats 400000 in
theorem rFlush_bad (g : Nat) (q r : Option Nat) (V : List Nat) (d : Dm) (w : World) (h : (rdk g q r V d).Ok w) (hd : d.gone = false) (hb : d.bad = true) :
    Calls Try.prog 34 #[.pointer (some ⟨g, 0, none⟩)] w fun e w' => e = .returned (.int .i64 20) ∧ Step w w' (rdk g q r V d) (rdk g q r V { d with gone := true }) := by
  obtain ⟨c3, c4, f⟩ := rdk_cells h.holds
  have f3 := f 3
  rw [hd] at c4
  rw [hb] at c3
  have S := rdk_turn (d' := { d with gone := true }) (w' := w.setCell ⟨g, 3, none⟩ (.bool true)) h rfl rfl (fun x y hB => by simpa using hB.set 3 (.bool true)) (grown_set _ _ _ _)
  have HS : Hid _ := S
  clear h S hd hb f
  go_enter Try.func34, Try.ntmps34
  go_wp2
  go_ret
  exact ⟨rfl, HS.out⟩

/-- what a flush of the document's has done to memory -/
theorem rflush_step {g : Nat} {q r : Option Nat} {V V2 : List Nat} {d : Dm} {w w2 : World} {sv : Value} {L : List (BitVec 8)} {n : Nat} (h : (rdk g q r V d).Ok w) (hd : d.gone = false) (hb : d.bad = false) (hl : L.length = n * 256) (b2 : Below w.heap.size w w2)
    (ok : (stOb sv V2 (chs L (secs L.length))).Ok w2) (hnew : ∀ k, k ∈ (stOb sv V2 (chs L (secs L.length))).W ∨ k ∈ V2 → w.heap.size ≤ k) :
    Step w ((w2.setCell ⟨g, 0, none⟩ sv).setCell ⟨g, 1, none⟩ (.slice none 0 0)) (rdk g q r V d) (rdk g sv.ownBlock none V2 ⟨L, [], false, false⟩) := by
  obtain ⟨hn, sv0, lv, S, vs0, ls, hq, hr, hD⟩ := h.holds
  have lg : g < w.heap.size := h.lt g (.inl (by simp [rdk]))
  have hB2 : Blk w2 g 39 [sv0, lv, .bool d.bad, .bool d.gone] := hD.blk.laterB b2
  have hB := (hB2.set 0 sv).set 1 (.slice none 0 0)
  rw [hd, hb] at hB
  generalize hW : (w2.setCell ⟨g, 0, none⟩ sv).setCell ⟨g, 1, none⟩ (.slice none 0 0) = wf at *
  have hset : ∀ k, k ≠ g → wf.heap[k]? = w2.heap[k]? := fun k hk => by rw [← hW, Below.heap_setCell _ _ _ _ hk, Below.heap_setCell _ _ _ _ hk]
  have hsz : wf.heap.size = w2.heap.size := by rw [← hW]; simp [World.setCell]
  have z2 := b2.size
  obtain ⟨vs, k2, k3⟩ := ok.holds
  have lt := ok.lt
  refine ⟨⟨?_, ?_, ?_, by omega, fun k hk hn => ?_⟩, rdk_ok ⟨?_, sv, .slice none 0 0, chs L (secs L.length), vs, [], rfl, rfl, by simpa using hB, ownsRow_same k2 (fun k hk => hset k ?_), k3.same (fun k hk => hset k ?_) (fun k hk => hk), ?_, chs_each L, World.ownsRow_nil _ _ _ _, trivial⟩ ?_ ?_, ?_, ?_⟩
  · rw [← hW]; exact b2.os
  · rw [← hW]; exact b2.tape
  · rw [← hW]; exact b2.output
  · have : k ≠ g := fun e => hn (by simp [rdk, e])
    rw [hset k this, b2.block k hk]
  · simp only [Option.toList_none, List.append_nil, List.nodup_cons, Option.mem_toList]
    refine ⟨fun e => ?_, by cases sv.ownBlock <;> simp⟩
    have := hnew g (.inl (by simp [stOb, e])); omega
  · have := hnew k (.inl (by simp [stOb, hk])); omega
  · have := hnew k (.inr hk); omega
  · rw [chs_all, pad_whole L n hl]
  · intro k hk
    rw [hsz]
    simp only [Option.toList_none, List.append_nil, List.mem_cons, Option.mem_toList] at hk
    rcases hk with (rfl | hk) | hk
    · omega
    · exact lt k (.inl (by simp [stOb, hk]))
    · exact lt k (.inr hk)
  · intro k hk hv
    simp only [Option.toList_none, List.append_nil, List.mem_cons, Option.mem_toList] at hk
    rcases hk with rfl | hk
    · have := hnew k (.inr hv); omega
    · exact ok.apart k (by simp [stOb, hk]) hv
  · intro k hk
    simp only [rdk, Option.toList_none, List.append_nil, List.mem_cons, Option.mem_toList] at hk
    rcases hk with rfl | hk
    · exact .inl (by simp [rdk])
    · exact .inr (hnew k (.inl (by simp [stOb, hk])))
  · intro k hk
    exact .inr (.inr (hnew k (.inr hk)))

end Go.Proofs.Ytmhnlfgakpelkaa
