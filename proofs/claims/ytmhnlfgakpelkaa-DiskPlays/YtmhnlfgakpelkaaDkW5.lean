/- A disk that is made; what is told of it. -/
import Derived.Test.YtmhnlfgakpelkaaDkW4
namespace Go.Proofs.Ytmhnlfgakpelkaa
open Go.RowKit
set_option linter.unusedVariables false

theorem Own.some {w : World} {base : Nat} {v : Value} {l : List (BitVec 8)} (h : Own w base v l) (h1 : 1 ≤ l.length) : ∃ m cap, v = .slice (some ⟨m, 0, none⟩) l.length cap ∧ base ≤ m ∧ m < w.heap.size := by
  have hl := World.ownsRow.lt h
  obtain ⟨_, h2 | ⟨g, cap, cur, rfl, hb, _⟩⟩ := h
  · omega
  · exact ⟨g, cap, rfl, hb, (hl g rfl).2⟩
theorem Own.low {w : World} {base base' : Nat} {v : Value} {l : List (BitVec 8)} (h : Own w base v l) (hb : base' ≤ base) : Own w base' v l := by
  obtain ⟨h1, h2 | ⟨g, cap, cur, hv, hg, r⟩⟩ := h
  · exact ⟨h1, .inl h2⟩
  · exact ⟨h1, .inr ⟨g, cap, cur, hv, by omega, r⟩⟩

set_option maxHeartbeats 400000 in
theorem of_any (s cap base : Nat) (l : List (BitVec 8)) (w : World) (ho : Own w base (.slice (some ⟨s, 0, none⟩) l.length cap) l) (h1 : 1 ≤ l.length) (h2 : l.length ≤ 1048576) :
    Calls Try.prog 29 #[.slice (some ⟨s, 0, none⟩) l.length cap] w fun e w' => ∃ g m, e = .returned (.pointer (some ⟨g, 0, none⟩)) ∧ (dk g ⟨s, m, none, []⟩ ⟨l, [], false, false⟩).Ok w' ∧ w.heap.size ≤ g ∧ w.heap.size ≤ m ∧ Below w.heap.size w w' := by
  obtain ⟨a, cap', hv, hle, hm, hr, hn, hg⟩ := ho.open
  have hs := (World.ownsRow.lt ho s rfl).2
  simp only [Value.slice.injEq] at hv
  obtain ⟨rfl, -, rfl⟩ := hv
  have HO : Hid _ := ho
  clear ho
  go_enter Try.func29, Try.ntmps29
  go_wp2_with fail
  refine (Clone_any (some ⟨s, 0, none⟩) l.length cap l _ rfl hle (by omega) hr (fun e => by cases e)).mono ?_
  rintro e w1 ⟨v, rfl, ho1, hb1⟩
  obtain ⟨m, cm, rfl, hm1, hm2⟩ := ho1.some h1
  have B1 : Blk (w1.alloc (.cells #[.slice (some ⟨s, 0, none⟩) l.length cap, .slice (some ⟨m, 0, none⟩) l.length cm, .slice none 0 0, .bool false, .bool false] 65)) w1.heap.size 65 [.slice (some ⟨s, 0, none⟩) l.length cap, .slice (some ⟨m, 0, none⟩) l.length cm, .slice none 0 0, .bool false, .bool false] := Blk.new' _ _ _
  have b2 : Below w1.heap.size w1 (w1.alloc (.cells #[.slice (some ⟨s, 0, none⟩) l.length cap, .slice (some ⟨m, 0, none⟩) l.length cm, .slice none 0 0, .bool false, .bool false] 65)) := (Below.refl _ _).alloc (Nat.le_refl _) _
  have hz := b2.size
  have hz1 := B1.lt
  have hzb := hb1.size
  have ok : (dk w1.heap.size ⟨s, m, none, []⟩ ⟨l, [], false, false⟩).Ok (w1.alloc (.cells #[.slice (some ⟨s, 0, none⟩) l.length cap, .slice (some ⟨m, 0, none⟩) l.length cm, .slice none 0 0, .bool false, .bool false] 65)) := by
    refine dk_ok ⟨?_, cap, cm, .slice none 0 0, [], rfl, B1, ((Own.later HO.out hb1).later b2).low (Nat.zero_le _), (ho1.later b2).low (Nat.zero_le _), World.ownsRow_nil _ _ _ _, trivial⟩ ?_ ?_
    · simp; omega
    · intro k hk
      simp at hk
      rcases hk with rfl | rfl | rfl <;> omega
    · intro k _ hv; cases hv
  have F : Hid _ := And.intro ok (below_then hb1 b2)
  clear ok B1 ho1 b2 hr HO
  go_wp2
  go_ret
  exact ⟨_, m, rfl, F.out.1, hzb, hm1, F.out.2⟩

theorem make_bytes (N : Nat) (C : Int) (hC : C = N) (hN : N ≤ 281474976710656) (u : World) : (Instr.makeSlice 22 (.int .i64 C) (.int .i64 C)).run Try.prog u =
    .ok (.slice (some ⟨u.heap.size, 0, none⟩) N N) (u.alloc (.cells (madeCells #[.int .u8 0] N) 5)) := by
  obtain ⟨i0, hi, hz0, hz1, hz2⟩ := info_parts info_u8
  have h := run_make (P := Try.prog) u 22 5 i0 (.int .u8 0) Try.underlying22 hi hz0 .i64 .i64 C C (by omega) (by omega) (by rw [hz2]; omega) (by omega)
  subst hC
  rw [hz1] at h
  simpa [Value.cells] using h
theorem made_own (u : World) (N : Nat) (hN : N ≤ maxLen) : Own (u.alloc (.cells (madeCells #[.int .u8 0] N) 5)) u.heap.size (.slice (some ⟨u.heap.size, 0, none⟩) N N) (List.replicate N 0#8) := by
  have e : (madeCells #[Value.int .u8 0] N) = (List.replicate N (Value.int .u8 0)).toArray := by
    apply Array.ext
    · simp [madeCells]
    · intro i h1 h2; simp [madeCells, Nat.mod_one]
  have hB : Blk (u.alloc (.cells (madeCells #[.int .u8 0] N) 5)) u.heap.size 5 (List.replicate N (.int .u8 0)) := by rw [e]; exact Blk.new' u _ _
  have := blk_own (base := u.heap.size) (cap := N) (l := List.replicate N 0#8) hB (by simp) (by rw [vals_zeros]; simp) (by simp) hN (Nat.le_refl _)
  simpa using this

set_option maxHeartbeats 400000 in
theorem New_no (n : Int) (w : World) (h : n < 1 ∨ 4096 < n) :
    Calls Try.prog 7 #[.int .i64 n] w fun e w' => e = .returned (.tuple #[.pointer none, .int .i64 1]) ∧ w = w' := by
  by_cases h1 : n < 1
  · go_enter Try.func7, Try.ntmps7
    go_wp2
    go_ret2
    exact ⟨rfl, rfl⟩
  · have h2 : 4096 < n := by omega
    go_enter Try.func7, Try.ntmps7
    go_wp2
    go_ret2
    exact ⟨rfl, rfl⟩
set_option maxHeartbeats 400000 in
theorem New_yes (n : Nat) (w : World) (h1 : 1 ≤ n) (h2 : n ≤ 4096) :
    Calls Try.prog 7 #[.int .i64 n] w fun e w' => ∃ g s m, e = .returned (.tuple #[.pointer (some ⟨g, 0, none⟩), .int .i64 0]) ∧ (dk g ⟨s, m, none, []⟩ ⟨List.replicate (n * 256) 0#8, [], false, false⟩).Ok w' ∧ w.heap.size ≤ g ∧ w.heap.size ≤ s ∧ w.heap.size ≤ m ∧ Below w.heap.size w w' := by
  have hmk := make_bytes (n * 256) ((n : Int) * 256) (by omega) (by omega)
  have q1 : ¬ (n : Int) < 1 := by omega
  have q2 : ¬ 4096 < (n : Int) := by omega
  have ho := made_own w (n * 256) (by unfold maxLen; omega)
  have hb : Below w.heap.size w (w.alloc (.cells (madeCells #[.int .u8 0] (n * 256)) 5)) := (Below.refl _ _).alloc (Nat.le_refl _) _
  have ho' : Own (w.alloc (.cells (madeCells #[.int .u8 0] (n * 256)) 5)) w.heap.size (.slice (some ⟨w.heap.size, 0, none⟩) (List.replicate (n * 256) 0#8).length (n * 256)) (List.replicate (n * 256) 0#8) := by simpa using ho
  have hof := of_any w.heap.size (n * 256) w.heap.size _ _ ho' (by simp; omega) (by simp; omega)
  rw [List.length_replicate] at hof
  have hsz := hb.size
  have HF : Hid _ := hof
  clear ho ho' hof
  go_enter Try.func7, Try.ntmps7
  go_wp2_with fail
  refine (Calls.mono HF.out) ?_
  rintro e w1 ⟨g, m, rfl, ok, hg, hm, hb1⟩
  have F : Hid _ := And.intro ok (below_then hb hb1)
  clear ok hmk HF hb hb1
  go_wp2
  go_ret2
  exact ⟨g, _, m, rfl, F.out.1, by omega, Nat.le_refl _, by omega, F.out.2⟩

/-- can these bytes be an image? -/
def isImage (n : Nat) : Bool := decide (n % 256 = 0 ∧ 256 ≤ n ∧ n ≤ 1048576)
set_option maxHeartbeats 400000 in
theorem Load_no (a : Option Addr) (len cap : Nat) (w : World) (hm : len ≤ 140737488351232) (h : isImage len = false) :
    Calls Try.prog 10 #[.slice a len cap] w fun e w' => e = .returned (.tuple #[.pointer none, .int .i64 1]) ∧ w = w' := by
  have h' : ¬ (len % 256 = 0 ∧ 256 ≤ len ∧ len ≤ 1048576) := of_decide_eq_false h
  have hs : secs len = (len + 255) / 256 := rfl
  generalize hS : secs len = S at *
  have HS : Hid _ := hS
  have hl : (len : Int) ≤ 140737488351232 := by omega
  have hS2 : (S : Int) ≤ 140737488351232 := by omega
  by_cases c1 : S < 1
  · have q1 : (S : Int) < 1 := by omega
    clear hS hs h h'
    go_enter Try.func10, Try.ntmps10
    go_wp2_with (go_at_call 31; refine (sectorsOf_any len _ (by omega)).mono ?_; rw [HS.out]; rintro e w' ⟨rfl, rfl⟩)
    go_ret2
    exact ⟨rfl, rfl⟩
  · have q1 : ¬ (S : Int) < 1 := by omega
    by_cases c2 : 4096 < S
    · have q2 : 4096 < (S : Int) := by omega
      clear hS hs h h'
      go_enter Try.func10, Try.ntmps10
      go_wp2_with (go_at_call 31; refine (sectorsOf_any len _ (by omega)).mono ?_; rw [HS.out]; rintro e w' ⟨rfl, rfl⟩)
      go_ret2
      exact ⟨rfl, rfl⟩
    · have q2 : ¬ 4096 < (S : Int) := by omega
      have q3 : ((len : Int) != (S : Int) * 256) = true := by rw [bne_iff_ne]; omega
      clear hS hs h h'
      go_enter Try.func10, Try.ntmps10
      go_wp2_with (go_at_call 31; refine (sectorsOf_any len _ (by omega)).mono ?_; rw [HS.out]; rintro e w' ⟨rfl, rfl⟩)
      go_ret2
      exact ⟨rfl, rfl⟩
set_option maxHeartbeats 400000 in
theorem Load_yes (a : Option Addr) (len cap : Nat) (l : List (BitVec 8)) (w : World) (hl : l.length = len) (hle : len ≤ cap) (hr : Row w a l) (hn : a = none → cap = 0) (h : isImage len = true) :
    Calls Try.prog 10 #[.slice a len cap] w fun e w' => ∃ g s m, e = .returned (.tuple #[.pointer (some ⟨g, 0, none⟩), .int .i64 0]) ∧ (dk g ⟨s, m, none, []⟩ ⟨l, [], false, false⟩).Ok w' ∧ w.heap.size ≤ g ∧ w.heap.size ≤ s ∧ w.heap.size ≤ m ∧ Below w.heap.size w w' := by
  have h' : len % 256 = 0 ∧ 256 ≤ len ∧ len ≤ 1048576 := of_decide_eq_true h
  have hs : secs len = (len + 255) / 256 := rfl
  generalize hS : secs len = S at *
  have HS : Hid _ := hS
  have q1 : ¬ (S : Int) < 1 := by omega
  have q2 : ¬ 4096 < (S : Int) := by omega
  have q3 : ((len : Int) != (S : Int) * 256) = false := by rw [bne_eq_false_iff_eq]; omega
  have q4 : (len : Int) ≤ 1048576 := by omega
  obtain ⟨p1, p2, p3⟩ := h'
  clear hS hs h
  go_enter Try.func10, Try.ntmps10
  go_wp2_with (go_at_call 31; refine (sectorsOf_any len _ (by omega)).mono ?_; rw [HS.out]; rintro e w' ⟨rfl, rfl⟩)
  refine (Clone_any a len cap l w hl hle (by omega) hr hn).mono ?_
  rintro e w1 ⟨v, rfl, ho1, hb1⟩
  obtain ⟨s, cs, rfl, hs1, hs2⟩ := ho1.some (by omega)
  go_wp2_with fail
  have hof := of_any s cs w.heap.size l w1 ho1 (by omega) (by omega)
  rw [hl] at hof
  refine hof.mono ?_
  clear hof
  rintro e w2 ⟨g, m, rfl, ok, hg, hm, hb2⟩
  have F : Hid _ := And.intro ok (below_then hb1 hb2)
  have hz := hb1.size
  clear ok hb1 hb2 ho1 hr
  go_wp2
  go_ret2
  exact ⟨g, s, m, rfl, F.out.1, by omega, hs1, by omega, F.out.2⟩

set_option maxHeartbeats 400000 in
theorem Image_any (g : Nat) (p : Pl) (d : Dm) (w : World) (h : (dk g p d).Ok w) (hw : d.Wf) :
    Calls Try.prog 21 #[.pointer (some ⟨g, 0, none⟩)] w fun e w' => ∃ v, e = .returned v ∧ Own w' w.heap.size v d.safe ∧ Below w.heap.size w w' := by
  obtain ⟨hn, cs, cm, gv, vs, hq, h⟩ := h.holds
  have c0 := h.blk.cell (by simp [maxLen]) 0 (by simp)
  simp only [List.getElem?_cons_zero] at c0
  have e1 : d.safe.length ≤ 1048576 := by have := hw.len; omega
  obtain ⟨a, cap, hv, hle, hm, hr, hnn, hg⟩ := h.safe.open
  simp only [Value.slice.injEq] at hv
  obtain ⟨rfl, -, rfl⟩ := hv
  clear h hw
  go_enter Try.func21, Try.ntmps21
  go_wp2_with (go_at_call 32; refine (Clone_any (some ⟨p.s, 0, none⟩) d.safe.length cs d.safe w rfl hle (by omega) hr (fun e => by cases e)).mono ?_; rintro e w1 ⟨v, rfl, ho1, hb1⟩)
  go_ret
  exact ⟨v, rfl, ho1, hb1⟩
set_option maxHeartbeats 400000 in
theorem Now_any (g : Nat) (p : Pl) (d : Dm) (w : World) (h : (dk g p d).Ok w) (hw : d.Wf) :
    Calls Try.prog 22 #[.pointer (some ⟨g, 0, none⟩)] w fun e w' => ∃ v, e = .returned v ∧ Own w' w.heap.size v (nowOf d.safe d.gs) ∧ Below w.heap.size w w' := by
  obtain ⟨hn, cs, cm, gv, vs, hq, h⟩ := h.holds
  have c0 := h.blk.cell (by simp [maxLen]) 1 (by simp)
  simp only [List.getElem?_cons_succ, List.getElem?_cons_zero] at c0
  have e1 : d.safe.length ≤ 1048576 := by have := hw.len; omega
  have hl := hw.now
  obtain ⟨a, cap, hv, hle, hm, hr, hnn, hg⟩ := h.now.open
  simp only [Value.slice.injEq] at hv
  obtain ⟨rfl, -, rfl⟩ := hv
  rw [hl] at hle
  generalize nowOf d.safe d.gs = L at *
  generalize d.safe.length = n at *
  have HL : Hid _ := hl
  clear h hw hl hg
  go_enter Try.func22, Try.ntmps22
  go_wp2_with (go_at_call 32; refine (Clone_any (some ⟨p.m, 0, none⟩) n cm L w HL.out hle (by omega) hr (fun e => by cases e)).mono ?_; rintro e w1 ⟨v, rfl, ho1, hb1⟩)
  go_ret
  exact ⟨v, rfl, ho1, hb1⟩
set_option maxHeartbeats 400000 in
theorem Pending_any (g : Nat) (p : Pl) (d : Dm) (w : World) (h : (dk g p d).Ok w) (hgs : d.gs.length ≤ 1000000) :
    Calls Try.prog 23 #[.pointer (some ⟨g, 0, none⟩)] w fun e w' => e = .returned (.int .i64 d.gs.length) ∧ w = w' := by
  obtain ⟨hn, cs, cm, gv, vs, hq, h⟩ := h.holds
  have c0 := h.blk.cell (by simp [maxLen]) 2 (by simp)
  simp only [List.getElem?_cons_succ, List.getElem?_cons_zero] at c0
  obtain ⟨a, cap, rfl⟩ : ∃ a cap, gv = .slice a d.gs.length cap := by
    obtain ⟨_, ⟨h1, h2⟩ | ⟨g, cap, cur, h1, _⟩⟩ := h.groups
    · rw [h2]; exact ⟨_, _, h1⟩
    · exact ⟨_, _, h1⟩
  clear h
  go_enter Try.func23, Try.ntmps23
  go_wp2
  go_ret
  exact ⟨rfl, rfl⟩
set_option maxHeartbeats 400000 in
theorem Dead_any (g : Nat) (p : Pl) (d : Dm) (w : World) (h : (dk g p d).Ok w) :
    Calls Try.prog 24 #[.pointer (some ⟨g, 0, none⟩)] w fun e w' => e = .returned (.bool d.gone) ∧ Below w.heap.size w w' := by
  obtain ⟨hn, cs, cm, gv, vs, hq, h⟩ := h.holds
  have c0 := h.blk.cell (by simp [maxLen]) 4 (by simp)
  simp only [List.getElem?_cons_succ, List.getElem?_cons_zero] at c0
  clear h
  go_enter Try.func24, Try.ntmps24
  go_wp2
  go_ret
  exact ⟨rfl, Below.refl _ _⟩
end Go.Proofs.Ytmhnlfgakpelkaa
