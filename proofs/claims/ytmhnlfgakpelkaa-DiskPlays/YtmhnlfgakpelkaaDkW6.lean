/- Reads and writes of a disk. -/
import Derived.Test.YtmhnlfgakpelkaaDkW5
namespace Go.Proofs.Ytmhnlfgakpelkaa
open Go.RowKit
set_option linter.unusedVariables false

theorem hasB_yes {n : Nat} {a k : Int} (h : hasB n a k = true) : ∃ x y : Nat, a = x ∧ k = y ∧ 1 ≤ y ∧ x + y ≤ n := by
  have := of_decide_eq_true h
  exact ⟨a.toNat, k.toNat, by omega, by omega, by omega, by omega⟩
theorem Row.part {w : World} {g n : Nat} {l : List (BitVec 8)} (h : Row w (some ⟨g, 0, none⟩) l) (off k : Nat) : Row w (some ⟨g, off, none⟩) ((l.drop off).take k) := by
  rcases h with rfl | ⟨b, o, hb, hc⟩
  · exact .inl (by simp)
  · cases hb
    refine .inr ⟨g, off, rfl, fun i hi => ?_⟩
    have hi' : i < k ∧ i < l.length - off := by simp at hi; omega
    have := hc (off + i) (by omega)
    rw [Nat.zero_add] at this
    rw [this]
    unfold bt
    rw [List.getD, List.getD, List.getElem?_take, if_pos hi'.1, List.getElem?_drop]

set_option maxHeartbeats 400000 in
theorem Read_no (g : Nat) (p : Pl) (d : Dm) (a k : Int) (w : World) (h : (dk g p d).Ok w) (hw : d.Wf) (ha : -9223372036854775808 ≤ a ∧ a ≤ 9223372036854775807) (hk : -9223372036854775808 ≤ k ∧ k ≤ 9223372036854775807) (hb : hasB d.n a k = false) :
    Calls Try.prog 26 #[.pointer (some ⟨g, 0, none⟩), .int .i64 a, .int .i64 k] w fun e w' => e = .returned (.tuple #[.slice none 0 0, .int .i64 1]) ∧ w = w' := by
  have hh := has_any g p d a k w h hw ha hk
  rw [hb] at hh
  have HH : Hid _ := hh
  clear hh h hw
  go_enter Try.func26, Try.ntmps26
  go_wp2_with (go_at_call 40; refine (Calls.mono HH.out) ?_; rintro e w' ⟨rfl, rfl⟩)
  go_ret2
  exact ⟨rfl, rfl⟩
set_option maxRecDepth 4000 in
set_option maxHeartbeats 400000 in
theorem Read_yes (g : Nat) (p : Pl) (d : Dm) (x y : Nat) (w : World) (h : (dk g p d).Ok w) (hw : d.Wf) (h1 : 1 ≤ y) (h2 : x + y ≤ d.n) :
    Calls Try.prog 26 #[.pointer (some ⟨g, 0, none⟩), .int .i64 x, .int .i64 y] w fun e w' => ∃ v, e = .returned (.tuple #[v, .int .i64 0]) ∧ Own w' w.heap.size v (((nowOf d.safe d.gs).drop (x * 256)).take (y * 256)) ∧ Below w.heap.size w w' := by
  obtain ⟨e1, e2, e3⟩ := hw.len
  have hh := has_any g p d x y w h hw (by omega) (by omega)
  rw [show hasB d.n x y = true from decide_eq_true (by omega)] at hh
  have HH : Hid _ := hh
  obtain ⟨hn, cs, cm, gv, vs, hq, h⟩ := h.holds
  have c0 := h.blk.cell (by simp [maxLen]) 1 (by simp)
  simp only [List.getElem?_cons_succ, List.getElem?_cons_zero] at c0
  have hl := hw.now
  obtain ⟨a, cap, hv, hle, hm, hr, hnn, hg⟩ := h.now.open
  simp only [Value.slice.injEq] at hv
  obtain ⟨rfl, -, rfl⟩ := hv
  rw [hl] at hle
  have hr' := hr.part (n := 0) (x * 256) (y * 256)
  generalize nowOf d.safe d.gs = L at *
  have hlen : ((L.drop (x * 256)).take (y * 256)).length = y * 256 := by simp; omega
  generalize (L.drop (x * 256)).take (y * 256) = L' at *
  have f1 : (x + y) * 256 ≤ cm := by omega
  have f2 : (x + y) * 256 ≤ 140737488355328 := by omega
  have f3 : y * 256 ≤ 140737488351232 := by omega
  have HL : Hid _ := hlen
  clear h hw hl hg hh e1 hlen hr hnn
  go_enter Try.func26, Try.ntmps26
  go_wp2_with (first
    | (go_at_call 40; refine (Calls.mono HH.out) ?_; rintro e w' ⟨rfl, rfl⟩)
    | (go_at_call 43; refine (span_any p.m _ cm x y _ h1 f1 f2).mono ?_; rintro e w' ⟨rfl, rfl⟩)
    | (go_at_call 32; refine (Clone_any (some ⟨p.m, x * 256, none⟩) (y * 256) (y * 256) L' _ HL.out (Nat.le_refl _) f3 hr' (fun e => by cases e)).mono ?_; rintro e w1 ⟨v, rfl, ho1, hb1⟩))
  go_ret2
  exact ⟨v, rfl, ho1, hb1⟩

theorem dk_cells {g : Nat} {p : Pl} {d : Dm} {w : World} (h : (dk g p d).P w) : w.cell? ⟨g, 3, none⟩ = some (.bool d.bad) ∧ w.cell? ⟨g, 4, none⟩ = some (.bool d.gone) ∧ w.frozen? ⟨g, 2, none⟩ = false ∧ w.frozen? ⟨g, 3, none⟩ = false ∧ w.frozen? ⟨g, 4, none⟩ = false := by
  obtain ⟨hn, cs, cm, gv, vs, hq, h⟩ := h
  have c3 := h.blk.cell (by simp [maxLen]) 3 (by simp)
  have c4 := h.blk.cell (by simp [maxLen]) 4 (by simp)
  simp only [List.getElem?_cons_succ, List.getElem?_cons_zero] at c3 c4
  exact ⟨c3, c4, h.blk.frozen (by simp [maxLen]) 2, h.blk.frozen (by simp [maxLen]) 3, h.blk.frozen (by simp [maxLen]) 4⟩

/-- a disk whose own cells turn -/
theorem dk_turn {g : Nat} {p : Pl} {d d' : Dm} {w w' : World} (h : (dk g p d).Ok w) (hs : d'.safe = d.safe) (hgs : d'.gs = d.gs) (hB : ∀ x y z, Blk w g 65 [x, y, z, .bool d.bad, .bool d.gone] → Blk w' g 65 [x, y, z, .bool d'.bad, .bool d'.gone])
    (hg : w.grownBy w' (some g)) : Step w w' (dk g p d) (dk g p d') := by
  have hT : Turned (· ∈ (dk g p d).W) w w' := turned_grown hg (fun k hk => by cases hk; simp [dk])
  obtain ⟨hn, cs, cm, gv, vs, hq, hD⟩ := h.holds
  have nd := List.nodup_cons.1 hn
  have hne : ∀ k, k ∈ p.s :: p.m :: p.q.toList ∨ k ∈ p.V → w'.heap[k]? = w.heap[k]? := by
    intro k hk
    refine hg.block k (h.lt k (by rcases hk with hk | hk; exact .inl (List.mem_cons_of_mem _ hk); exact .inr hk)) ?_
    intro e
    cases e
    rcases hk with hk | hk
    · exact nd.1 hk
    · exact h.apart g (by simp [dk]) hk
  refine ⟨hT, dk_ok ⟨hn, cs, cm, gv, vs, hq, ?_, ?_, ?_, ?_, ?_⟩ (fun k hk => Nat.lt_of_lt_of_le (h.lt k hk) hg.size) h.apart, fun k hk => .inl hk, fun k hk => .inr (.inl hk)⟩
  · rw [hs]; exact hB _ _ _ hD.blk
  · rw [hs]; exact hD.safe.same (fun k hk => hne k (.inl (by cases hk; simp)))
  · rw [hs, hgs]; exact hD.now.same (fun k hk => hne k (.inl (by cases hk; simp)))
  · rw [hgs]; exact ownsRow_same hD.groups (fun k hk => hne k (.inl (by rw [hq] at hk; simp [hk])))
  · rw [hgs]; exact hD.each.same (fun k hk => hne k (.inr hk))

set_option maxHeartbeats 400000 in
theorem Fail_any (g : Nat) (p : Pl) (d : Dm) (w : World) (h : (dk g p d).Ok w) :
    Calls Try.prog 27 #[.pointer (some ⟨g, 0, none⟩)] w fun e w' => e = .returned (.int .i64 0) ∧ Step w w' (dk g p d) (dk g p { d with bad := true }) := by
  obtain ⟨c3, c4, f2, f3, f4⟩ := dk_cells h.holds
  have S := dk_turn (d' := { d with bad := true }) (w' := w.setCell ⟨g, 3, none⟩ (.bool true)) h rfl rfl (fun x y z hB => by simpa using hB.set 3 (.bool true)) (grown_set _ _ _ _)
  have HS : Hid _ := S
  clear h S
  go_enter Try.func27, Try.ntmps27
  go_wp2
  go_ret
  exact ⟨rfl, HS.out⟩

set_option maxHeartbeats 400000 in
theorem Write_dead (g : Nat) (p : Pl) (d : Dm) (a : Int) (b : Value) (w : World) (h : (dk g p d).Ok w) (hd : d.gone = true) :
    Calls Try.prog 19 #[.pointer (some ⟨g, 0, none⟩), .int .i64 a, b] w fun e w' => e = .returned (.int .i64 21) ∧ w = w' := by
  obtain ⟨c3, c4, -, -, -⟩ := dk_cells h.holds
  rw [hd] at c4
  clear h hd
  go_enter Try.func19, Try.ntmps19
  go_wp2
  go_ret
  exact ⟨rfl, rfl⟩
set_option maxHeartbeats 400000 in
theorem Write_arg (g : Nat) (p : Pl) (d : Dm) (a : Int) (ab : Option Addr) (len cap : Nat) (w : World) (h : (dk g p d).Ok w) (hw : d.Wf) (hd : d.gone = false) (hm : len ≤ 140737488355328) (ha : -9223372036854775808 ≤ a ∧ a ≤ 9223372036854775807) (hb : hasB d.n a (secs len : Nat) = false) :
    Calls Try.prog 19 #[.pointer (some ⟨g, 0, none⟩), .int .i64 a, .slice ab len cap] w fun e w' => e = .returned (.int .i64 1) ∧ w = w' := by
  obtain ⟨c3, c4, -, -, -⟩ := dk_cells h.holds
  rw [hd] at c4
  have hs : secs len ≤ 140737488355328 := by unfold secs; omega
  have hh := has_any g p d a (secs len : Nat) w h hw ha (by omega)
  rw [hb] at hh
  have HH : Hid _ := hh
  clear hh h hw hd hb
  go_enter Try.func19, Try.ntmps19
  go_wp2_with (first
    | (go_at_call 31; refine (sectorsOf_any len _ hm).mono ?_; rintro e w' ⟨rfl, rfl⟩)
    | (go_at_call 40; refine (Calls.mono HH.out) ?_; rintro e w' ⟨rfl, rfl⟩))
  go_ret
  exact ⟨rfl, rfl⟩

/- what there is not -/
set_option maxHeartbeats 400000 in
theorem Read_nil (a k : Int) (w : World) : Calls Try.prog 26 #[.pointer none, .int .i64 a, .int .i64 k] w fun e w' => e = .returned (.tuple #[.slice none 0 0, .int .i64 2]) ∧ w = w' := by
  go_enter Try.func26, Try.ntmps26
  go_wp2
  go_ret2
  exact ⟨rfl, rfl⟩
set_option maxHeartbeats 400000 in
theorem Write_nil (a b : Value) (w : World) : Calls Try.prog 19 #[.pointer none, a, b] w fun e w' => e = .returned (.int .i64 2) ∧ w = w' := by
  go_enter Try.func19, Try.ntmps19
  go_wp2
  go_ret
  exact ⟨rfl, rfl⟩
set_option maxHeartbeats 400000 in
theorem Flush_nil (w : World) : Calls Try.prog 25 #[.pointer none] w fun e w' => e = .returned (.int .i64 2) ∧ w = w' := by
  go_enter Try.func25, Try.ntmps25
  go_wp2
  go_ret
  exact ⟨rfl, rfl⟩
set_option maxHeartbeats 400000 in
theorem Fail_nil (w : World) : Calls Try.prog 27 #[.pointer none] w fun e w' => e = .returned (.int .i64 2) ∧ w = w' := by
  go_enter Try.func27, Try.ntmps27
  go_wp2
  go_ret
  exact ⟨rfl, rfl⟩
set_option maxHeartbeats 400000 in
theorem Crash_nil (b : Value) (w : World) : Calls Try.prog 20 #[.pointer none, b] w fun e w' => e = .returned (.int .i64 2) ∧ w = w' := by
  go_enter Try.func20, Try.ntmps20
  go_wp2
  go_ret
  exact ⟨rfl, rfl⟩
set_option maxHeartbeats 400000 in
theorem Size_nil (w : World) : Calls Try.prog 28 #[.pointer none] w fun e w' => e = .returned (.int .i64 0) ∧ w = w' := by
  go_enter Try.func28, Try.ntmps28
  go_wp2
  go_ret
  exact ⟨rfl, rfl⟩
set_option maxHeartbeats 400000 in
theorem Image_nil (w : World) : Calls Try.prog 21 #[.pointer none] w fun e w' => e = .returned (.slice none 0 0) ∧ w = w' := by
  go_enter Try.func21, Try.ntmps21
  go_wp2
  go_ret
  exact ⟨rfl, rfl⟩
set_option maxHeartbeats 400000 in
theorem Now_nil (w : World) : Calls Try.prog 22 #[.pointer none] w fun e w' => e = .returned (.slice none 0 0) ∧ w = w' := by
  go_enter Try.func22, Try.ntmps22
  go_wp2
  go_ret
  exact ⟨rfl, rfl⟩
set_option maxHeartbeats 400000 in
theorem Pending_nil (w : World) : Calls Try.prog 23 #[.pointer none] w fun e w' => e = .returned (.int .i64 0) ∧ w = w' := by
  go_enter Try.func23, Try.ntmps23
  go_wp2
  go_ret
  exact ⟨rfl, rfl⟩
set_option maxHeartbeats 400000 in
theorem Dead_nil (w : World) : Calls Try.prog 24 #[.pointer none] w fun e w' => e = .returned (.bool false) ∧ w = w' := by
  go_enter Try.func24, Try.ntmps24
  go_wp2
  go_ret
  exact ⟨rfl, rfl⟩
set_option maxHeartbeats 400000 in
theorem Copy_nil (w : World) : Calls Try.prog 18 #[.pointer none] w fun e w' => e = .returned (.pointer none) ∧ w = w' := by
  go_enter Try.func18, Try.ntmps18
  go_wp2
  go_ret
  exact ⟨rfl, rfl⟩
end Go.Proofs.Ytmhnlfgakpelkaa
