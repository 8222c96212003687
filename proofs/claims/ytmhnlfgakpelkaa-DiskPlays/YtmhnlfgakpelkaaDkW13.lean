/- The walk of one call of a disk. -/
import Derived.Test.YtmhnlfgakpelkaaDkW12
namespace Go.Proofs.Ytmhnlfgakpelkaa
open Go.RowKit
set_option linter.unusedVariables false

theorem cell_turned {w w' : World} {x : Addr} {v : Value} {R : Nat → Prop} (h : w.cell? x = some v) (ht : Turned R w w') (hr : ¬ R x.block) : w'.cell? x = some v := by
  have hx : x.block < w.heap.size := by
    rcases Nat.lt_or_ge x.block w.heap.size with h1 | h1
    · exact h1
    · unfold World.cell? at h
      rw [Array.getElem?_eq_none h1] at h
      simp at h
  rw [World.cell?_of_block (w := w) (ht.block _ hx hr)]
  exact h
theorem row_turned {w w' : World} {a : Option Addr} {l : List (BitVec 8)} {R : Nat → Prop} (h : Row w a l) (ht : Turned R w w') (hr : l ≠ [] → ∀ y, a = some y → ¬ R y.block) : Row w' a l := by
  rcases h with h | ⟨b, off, rfl, hc⟩
  · exact .inl h
  · by_cases e : l = []
    · exact .inl e
    · exact .inr ⟨b, off, rfl, fun i hi => cell_turned (hc i hi) ht (hr e ⟨b, off, none⟩ rfl)⟩
theorem row_lt {w : World} {a : Option Addr} {l : List (BitVec 8)} (h : Row w a l) (hl : l ≠ []) : ∀ y, a = some y → y.block < w.heap.size := by
  intro y hy
  rcases h with h | ⟨b, off, rfl, hc⟩
  · exact absurd h hl
  · cases hy
    have h0 := hc 0 (List.length_pos_iff.2 hl)
    rcases Nat.lt_or_ge b w.heap.size with h1 | h1
    · exact h1
    · unfold World.cell? at h0
      rw [Array.getElem?_eq_none h1] at h0
      simp at h0
theorem irow_lt {w : World} {a : Option Addr} {l : List Int} (h : IRow w a l) (hl : l ≠ []) : ∀ y, a = some y → y.block < w.heap.size := by
  intro y hy
  rcases h.2 with h | ⟨b, off, rfl, hc⟩
  · exact absurd h hl
  · cases hy
    have h0 := hc 0 (List.length_pos_iff.2 hl)
    rcases Nat.lt_or_ge b w.heap.size with h1 | h1
    · exact h1
    · unfold World.cell? at h0
      rw [Array.getElem?_eq_none h1] at h0
      simp at h0
theorem irow_later {w w' : World} {a : Option Addr} {l : List Int} (h : IRow w a l) (hb : Below w.heap.size w w') : IRow w' a l := by
  obtain ⟨h0, h | ⟨b, off, rfl, hc⟩⟩ := h
  · exact ⟨h0, .inl h⟩
  · exact ⟨h0, .inr ⟨b, off, rfl, fun i hi => cell_later hb (hc i hi)⟩⟩
theorem Step.beside {w w2 w3 : World} {o o' : Ob} {k : Nat} (s : Step w w2 o o') (hg : w2.grownBy w3 (some k)) (hk : w.heap.size ≤ k) (h1 : k ∉ o'.W) (h2 : k ∉ o'.V) : Step w w3 o o' :=
  ⟨s.turned.trans (turned_grown hg (fun i hi => by cases hi; exact .inr hk)), s.ok.turned (turned_grown (R := fun i => i = k) hg (fun i hi => by cases hi; rfl)) (fun i hi e => by subst e; rcases hi with hi | hi; exact h1 hi; exact h2 hi), s.writes, s.reads⟩
theorem op_box (w : World) (x y z u : Value) (T : TypeId) : (w.alloc (.cells #[x, y, z, u] T)).cell? ⟨w.heap.size, 0, none⟩ = some x ∧ (w.alloc (.cells #[x, y, z, u] T)).cell? ⟨w.heap.size, 1, none⟩ = some y ∧ (w.alloc (.cells #[x, y, z, u] T)).cell? ⟨w.heap.size, 2, none⟩ = some z ∧ (w.alloc (.cells #[x, y, z, u] T)).cell? ⟨w.heap.size, 3, none⟩ = some u := by
  have h : Blk (w.alloc (.cells #[x, y, z, u] T)) w.heap.size T [x, y, z, u] := Blk.new' w T [x, y, z, u]
  exact ⟨h.cell (by simp [maxLen]) 0 (by simp), h.cell (by simp [maxLen]) 1 (by simp), h.cell (by simp [maxLen]) 2 (by simp), h.cell (by simp [maxLen]) 3 (by simp)⟩

theorem Spoil_lent' {w : World} {base g c len : Nat} {l : List (BitVec 8)} (ho : Own w base (.slice (some ⟨g, 0, none⟩) (len + 1) c) l) (hlen : len ≤ 140737488351232) (hc : len + 1 ≤ c) :
    Calls Try.prog 13 #[.slice (some ⟨g, 0, none⟩) len c] w fun e w' => e = .returned (.tuple #[]) ∧ w.grownBy w' (some g) := by
  obtain ⟨h1, h2 | ⟨g', cap, cur, hv, hb, hh, hc', hm, hs, ht⟩⟩ := ho
  · simp at h2
  · simp only [Value.slice.injEq, Option.some.injEq, Addr.mk.injEq] at hv
    obtain ⟨⟨rfl, _, _⟩, _, rfl⟩ := hv
    exact Spoil_some g 0 len c 5 cur.toList w (by unfold Blk; simpa using hh) (by simp; omega) (by simp; omega) (by omega) hlen

set_option maxHeartbeats 1000000 in
theorem do_write (g : Nat) (p : Pl) (d : Dm) (k n : Int) (ab : Option Addr) (len cap : Nat) (lb : List (BitVec 8)) (lv : Value) (w : World) (h : (dk g p d).Ok w) (hw : d.Wf) (hgs : d.gs.length ≤ 1000000) (hk : k = 0 ∨ k = 1)
    (hn : -9223372036854775808 ≤ n ∧ n ≤ 9223372036854775807) (A : Arg 140737488351232 w ab len cap lb) (hdis : lb ≠ [] → ∀ y, ab = some y → y.block ∉ (dk g p d).W) :
    Calls Try.prog 15 #[.pointer (some ⟨g, 0, none⟩), .agg #[.int .i64 k, .int .i64 n, .slice ab len cap, lv]] w fun e w' => ∃ p', e = .returned (.int .i64 (wrD d n lb).2) ∧ Step w w' (dk g p d) (dk g p' (wrD d n lb).1) := by
  obtain ⟨S0, S1, S2, S3⟩ := op_box w (.int .i64 k) (.int .i64 n) (.slice ab len cap) lv 44
  have b0 : Below w.heap.size w (w.alloc (.cells #[.int .i64 k, .int .i64 n, .slice ab len cap, lv] 44)) := (Below.refl _ _).alloc (Nat.le_refl _) _
  have A0 : Arg 140737488351232 (w.alloc (.cells #[.int .i64 k, .int .i64 n, .slice ab len cap, lv] 44)) ab len cap lb := ⟨A.len_eq, A.le, A.bound, A.row.later b0, A.isNil⟩
  have hz0 : w.heap.size < (w.alloc (.cells #[.int .i64 k, .int .i64 n, .slice ab len cap, lv] 44)).heap.size := by simp
  have hL : Hid _ := Lent_any ab len cap lb _ A0
  obtain ⟨hl, hle, hbd, hr, hnn⟩ := A
  have q0 : ((k == 0) = true ∧ k = 0) ∨ ((k == 0) = false ∧ (k == 1) = true) := by
    rcases hk with rfl | rfl
    · exact .inl ⟨rfl, rfl⟩
    · exact .inr ⟨rfl, rfl⟩
  generalize hw0 : w.alloc (.cells #[.int .i64 k, .int .i64 n, .slice ab len cap, lv] 44) = w0 at *
  have hr0 := A0.row
  have key : ∀ (w1 : World) (go c : Nat), Own w1 w0.heap.size (.slice (some ⟨go, 0, none⟩) (len + 1) c) (lb ++ [167#8]) → w0.heap.size ≤ go → len + 1 ≤ c → Below w0.heap.size w0 w1 →
      Calls Try.prog 19 #[.pointer (some ⟨g, 0, none⟩), .int .i64 n, .slice (some ⟨go, 0, none⟩) len c] w1 fun e w2 => ∃ p', e = .returned (.int .i64 (wrD d n lb).2) ∧ Step w w2 (dk g p d) (dk g p' (wrD d n lb).1) ∧ go ∉ (dk g p' (wrD d n lb).1).W ∧ go ∉ (dk g p' (wrD d n lb).1).V ∧ w.heap.size ≤ go ∧ Own w2 w0.heap.size (.slice (some ⟨go, 0, none⟩) (len + 1) c) (lb ++ [167#8]) ∧ Row w2 ab lb ∧ w2.cell? ⟨w.heap.size, 2, none⟩ = some (.slice ab len cap) := by
    intro w1 go c ho1 hgo hc b1
    have hgl := (World.ownsRow.lt ho1 go rfl).2
    have z1 := b0.size
    have b01 := below_then b0 b1
    have hrow : Row w1 (some ⟨go, 0, none⟩) (lb ++ [167#8]) := by
      obtain ⟨a1, cap1, hv1, _, _, hr1, _, _⟩ := ho1.open
      simp only [Value.slice.injEq] at hv1
      rw [hv1.1]; exact hr1
    have hrow' : Row w1 (some ⟨go, 0, none⟩) lb := by have := hrow.part (n := 0) 0 len; rw [List.drop_zero, List.take_left' hl] at this; exact this
    refine (Write_any g p d n (some ⟨go, 0, none⟩) len c lb w1 (h.later b01) hw hl hrow' (by omega) (fun e => by cases e) (by omega) hn hgs).mono ?_
    rintro e w2 ⟨p', rfl, st⟩
    have hWl : ∀ i ∈ (dk g p d).W, i < w.heap.size := fun i hi => h.lt i (.inl hi)
    refine ⟨p', rfl, (Step.quiet h b01).trans st, fun hm => ?_, fun hm => ?_, by omega, ?_, ?_, ?_⟩
    · rcases st.writes go hm with e | e
      · have := hWl go e; omega
      · omega
    · rcases st.reads go hm with e | e | e
      · have := hWl go e; omega
      · have := h.lt go (.inr e); omega
      · omega
    · exact ho1.turned st.turned (fun i hi e => by cases hi; have e' : go ∈ (dk g p d).W := e; have := hWl go e'; omega)
    · exact row_turned (hr0.later b1) st.turned (fun e y hy => hdis e y hy)
    · exact cell_turned (cell_later b1 S2) st.turned (fun e => by have := hWl _ e; have e' : w.heap.size < w.heap.size := this; omega)
  have HK : Hid _ := key
  have HW0 : Hid _ := hw0
  clear key A0 hr0 h hw hr hdis b0 hw0
  rcases q0 with ⟨q1, rfl⟩ | ⟨q1, q2⟩
  all_goals
    go_enter Try.func15, Try.ntmps15
    go_wp2_with fail
    rw [HW0.out]
    clear HW0
    refine (Calls.mono hL.out) ?_
    rintro e w1 ⟨go, c, rfl, ho1, hgo, hc, hcm, b1⟩
    have r1 := cell_later b1 S1
    have HW : Hid _ := HK.out w1 go c ho1 hgo hc b1
    clear ho1 b1
    go_wp2_with fail
    refine (Calls.mono HW.out) ?_
    rintro e w2 ⟨p', rfl, st, n1, n2, hgo', ho2, hr2, r2⟩
    have hrow : Row w2 (some ⟨go, 0, none⟩) (lb ++ [167#8]) := by
      obtain ⟨a1, cap1, hv1, _, _, hr1, _, _⟩ := ho2.open
      simp only [Value.slice.injEq] at hv1
      rw [hv1.1]; exact hr1
    have HKept : Hid _ := Kept_yes go len c ab cap lb w2 hl hc (by omega) hrow hr2
    have HSp : Hid _ := Spoil_lent' ho2 (by omega) hc
    have HSt : Hid _ := And.intro st (And.intro n1 n2)
    clear st n1 n2 ho2 hr2 hrow HW
    go_wp2_with fail
    refine (Calls.mono HKept.out) ?_
    rintro e w2' ⟨rfl, rfl⟩
    go_wp2_with fail
    refine (Calls.mono HSp.out) ?_
    rintro e w3 ⟨rfl, hg3⟩
    have F : Hid _ := HSt.out.1.beside hg3 hgo' HSt.out.2.1 HSt.out.2.2
    clear hg3 HSt HSp HKept
    go_wp2
    go_ret
    exact ⟨p', rfl, F.out⟩

set_option maxHeartbeats 1000000 in
theorem do_other (g : Nat) (p : Pl) (d : Dm) (k n : Int) (bv lv : Value) (w : World) (h : (dk g p d).Ok w) (h0 : k ≠ 0) (h1 : k ≠ 1) (h2 : k ≠ 2) (h3 : k ≠ 3) (h4 : k ≠ 4) :
    Calls Try.prog 15 #[.pointer (some ⟨g, 0, none⟩), .agg #[.int .i64 k, .int .i64 n, bv, lv]] w fun e w' => e = .returned (.int .i64 0) ∧ Step w w' (dk g p d) (dk g p d) := by
  obtain ⟨S0, S1, S2, S3⟩ := op_box w (.int .i64 k) (.int .i64 n) bv lv 44
  have b0 : Below w.heap.size w (w.alloc (.cells #[.int .i64 k, .int .i64 n, bv, lv] 44)) := (Below.refl _ _).alloc (Nat.le_refl _) _
  have q0 : (k == 0) = false := by simpa using h0
  have q1 : (k == 1) = false := by simpa using h1
  have q2 : (k == 2) = false := by simpa using h2
  have q3 : (k == 3) = false := by simpa using h3
  have q4 : (k == 4) = false := by simpa using h4
  have F : Hid _ := Step.quiet h b0
  clear h b0 h0 h1 h2 h3 h4
  go_enter Try.func15, Try.ntmps15
  go_wp2
  go_ret
  exact ⟨rfl, F.out⟩

set_option maxHeartbeats 1000000 in
theorem do_flush (g : Nat) (p : Pl) (d : Dm) (n : Int) (bv lv : Value) (w : World) (h : (dk g p d).Ok w) (hw : d.Wf) (hgs : d.gs.length ≤ 1000000) :
    Calls Try.prog 15 #[.pointer (some ⟨g, 0, none⟩), .agg #[.int .i64 2, .int .i64 n, bv, lv]] w fun e w' => ∃ p', e = .returned (.int .i64 (flD d).2) ∧ Step w w' (dk g p d) (dk g p' (flD d).1) := by
  have b0 : Below w.heap.size w (w.alloc (.cells #[.int .i64 2, .int .i64 n, bv, lv] 44)) := (Below.refl _ _).alloc (Nat.le_refl _) _
  have HF : Hid _ := Flush_any g p d _ (h.later b0) hw hgs
  have HB : Hid _ := Step.quiet h b0
  clear h b0 hw
  go_enter Try.func15, Try.ntmps15
  go_wp2_with (go_at_call 25; refine (Calls.mono HF.out) ?_; rintro e w2 ⟨p', rfl, st⟩)
  go_ret
  exact ⟨p', rfl, HB.out.trans st⟩
set_option maxHeartbeats 1000000 in
theorem do_fail (g : Nat) (p : Pl) (d : Dm) (n : Int) (bv lv : Value) (w : World) (h : (dk g p d).Ok w) :
    Calls Try.prog 15 #[.pointer (some ⟨g, 0, none⟩), .agg #[.int .i64 3, .int .i64 n, bv, lv]] w fun e w' => e = .returned (.int .i64 0) ∧ Step w w' (dk g p d) (dk g p { d with bad := true }) := by
  have b0 : Below w.heap.size w (w.alloc (.cells #[.int .i64 3, .int .i64 n, bv, lv] 44)) := (Below.refl _ _).alloc (Nat.le_refl _) _
  have HF : Hid _ := Fail_any g p d _ (h.later b0)
  have HB : Hid _ := Step.quiet h b0
  clear h b0
  go_enter Try.func15, Try.ntmps15
  go_wp2_with (go_at_call 27; refine (Calls.mono HF.out) ?_; rintro e w2 ⟨rfl, st⟩)
  go_ret
  exact ⟨rfl, HB.out.trans st⟩
set_option maxHeartbeats 1000000 in
theorem do_crash (g : Nat) (p : Pl) (d : Dm) (n : Int) (bv : Value) (ka : Option Addr) (len kcap : Nat) (kl : List Int) (w : World) (h : (dk g p d).Ok w) (hw : d.Wf) (hgs : d.gs.length ≤ 1000000) (A : IArg 140737488351232 w ka len kcap kl) (hdis : kl ≠ [] → ∀ y, ka = some y → y.block ∉ (dk g p d).W) :
    Calls Try.prog 15 #[.pointer (some ⟨g, 0, none⟩), .agg #[.int .i64 4, .int .i64 n, bv, .slice ka len kcap]] w fun e w' => ∃ p', e = .returned (.int .i64 0) ∧ Step w w' (dk g p d) (dk g p' ⟨crashed d.safe d.gs kl, [], false, false⟩) := by
  have b0 : Below w.heap.size w (w.alloc (.cells #[.int .i64 4, .int .i64 n, bv, .slice ka len kcap] 44)) := (Below.refl _ _).alloc (Nat.le_refl _) _
  have hl := A.len_eq
  subst hl
  have HF : Hid _ := Crash_any g p d ka kcap kl _ (h.later b0) hw hgs (by have := A.le; have := A.bound; omega) A.le (irow_later A.row b0) (fun e y hy he => hdis e y hy (by simp [dk, he]))
  have HB : Hid _ := Step.quiet h b0
  clear h b0 hw A hdis
  go_enter Try.func15, Try.ntmps15
  go_wp2_with (go_at_call 20; refine (Calls.mono HF.out) ?_; rintro e w2 ⟨rfl, st⟩)
  go_ret
  exact ⟨_, rfl, HB.out.trans st⟩

/-- any call -/
theorem do_any (W0 : World) (g : Nat) (p : Pl) (d : Dm) (k n : Int) (ab : Option Addr) (len cap : Nat) (lb : List (BitVec 8)) (ka : Option Addr) (klen kcap : Nat) (kl : List Int) (w : World) (h : (dk g p d).Ok w) (hw : d.Wf) (hgs : d.gs.length ≤ 1000000)
    (hn : -9223372036854775808 ≤ n ∧ n ≤ 9223372036854775807) (A : Arg 140737488351232 W0 ab len cap lb) (I : IArg 140737488351232 W0 ka klen kcap kl) (hb : Below W0.heap.size W0 w) (hW : ∀ i ∈ (dk g p d).W, W0.heap.size ≤ i) :
    Calls Try.prog 15 #[.pointer (some ⟨g, 0, none⟩), .agg #[.int .i64 k, .int .i64 n, .slice ab len cap, .slice ka klen kcap]] w fun e w' => ∃ p', e = .returned (.int .i64 (dmDo d k n lb kl).2) ∧ Step w w' (dk g p d) (dk g p' (dmDo d k n lb kl).1) := by
  by_cases h01 : k = 0 ∨ k = 1
  · have e : dmDo d k n lb kl = wrD d n lb := by unfold dmDo; rw [if_pos h01]
    rw [e]
    exact do_write g p d k n ab len cap lb _ w h hw hgs h01 hn ⟨A.len_eq, A.le, A.bound, A.row.later hb, A.isNil⟩ (fun e y hy hm => by have := hW _ hm; have := row_lt A.row e y hy; omega)
  by_cases h2 : k = 2
  · subst h2
    have e : dmDo d 2 n lb kl = flD d := by unfold dmDo; rw [if_neg h01, if_pos rfl]
    rw [e]
    exact do_flush g p d n _ _ w h hw hgs
  by_cases h3 : k = 3
  · subst h3
    have e : dmDo d 3 n lb kl = ({ d with bad := true }, 0) := by unfold dmDo; rw [if_neg h01, if_neg h2, if_pos rfl]
    rw [e]
    refine (do_fail g p d n _ _ w h).mono ?_
    rintro e w' ⟨rfl, st⟩
    exact ⟨p, rfl, st⟩
  by_cases h4 : k = 4
  · subst h4
    have e : dmDo d 4 n lb kl = (⟨crashed d.safe d.gs kl, [], false, false⟩, 0) := by unfold dmDo; rw [if_neg h01, if_neg h2, if_neg h3, if_pos rfl]
    rw [e]
    exact do_crash g p d n _ ka klen kcap kl w h hw hgs ⟨I.len_eq, I.le, I.bound, irow_later I.row hb⟩ (fun e y hy hm => by have := hW _ hm; have := irow_lt I.row e y hy; omega)
  · have e : dmDo d k n lb kl = (d, 0) := by unfold dmDo; rw [if_neg h01, if_neg h2, if_neg h3, if_neg h4]
    rw [e]
    refine (do_other g p d k n _ _ w h (fun e => h01 (.inl e)) (fun e => h01 (.inr e)) h2 h3 h4).mono ?_
    rintro e w' ⟨rfl, st⟩
    exact ⟨p, rfl, st⟩
end Go.Proofs.Ytmhnlfgakpelkaa
