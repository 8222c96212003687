/- What must come of fixed calls of a disk. -/
import Derived.Test.YtmhnlfgakpelkaaDkW10
namespace Go.Proofs.Ytmhnlfgakpelkaa
open Go.RowKit
set_option linter.unusedVariables false

theorem wf_new (n : Nat) (h1 : 1 ≤ n) (h2 : n ≤ 4096) : Dm.Wf ⟨List.replicate (n * 256) 0#8, [], false, false⟩ :=
  ⟨⟨n, h1, h2, by simp⟩, fun g hg => by cases hg⟩
theorem Dm.n_of {d : Dm} {n : Nat} (h : d.safe.length = n * 256) : d.n = n := by unfold Dm.n; omega
theorem fits_of {n x : Nat} {lb : List (BitVec 8)} {N : Nat} (hN : N = n * 256) (h1 : 1 ≤ lb.length) (h2 : x + secs lb.length ≤ n) : Fits N (x, lb) := ⟨h1, by subst hN; exact Nat.mul_le_mul_right _ h2⟩
theorem Dm.Wf.write {d : Dm} (h : d.Wf) (x : Nat) (lb : List (BitVec 8)) (h1 : 1 ≤ lb.length) (h2 : x + secs lb.length ≤ d.n) : Dm.Wf { d with gs := d.gs ++ [(x, lb)] } :=
  ⟨h.size, fun g hg => by
    rcases List.mem_append.1 hg with hg | hg
    · exact h.fits g hg
    · rw [List.mem_singleton] at hg; subst hg; exact fits_of h.len.1 h1 h2⟩
theorem Dm.Wf.crash {d : Dm} (h : d.Wf) (kl : List Int) : Dm.Wf ⟨crashed d.safe d.gs kl, [], false, false⟩ := by
  obtain ⟨n, h1, h2, h3⟩ := h.size
  exact ⟨⟨n, h1, h2, by show (crashed d.safe d.gs kl).length = _; rw [show (crashed d.safe d.gs kl).length = d.safe.length from crashTo_length h.fits kl _ (Nat.le_refl _)]; exact h3⟩, fun g hg => by cases hg⟩
theorem Dm.Wf.flush {d : Dm} (h : d.Wf) : Dm.Wf ⟨nowOf d.safe d.gs, [], false, false⟩ := by
  obtain ⟨n, h1, h2, h3⟩ := h.size
  exact ⟨⟨n, h1, h2, by show (nowOf d.safe d.gs).length = _; rw [h.now]; exact h3⟩, fun g hg => by cases hg⟩

/-- what is there behind the crash of the document's example -/
def ones : List (BitVec 8) := List.replicate 300 1#8
def left3 : List (BitVec 8) := crashed (List.replicate 1024 0#8) [(0, ones)] [2]
theorem ones_length : ones.length = 300 := List.length_replicate ..
theorem secs_300 : secs 300 = 2 := by decide
set_option maxRecDepth 8000 in
theorem fits3 : ∀ g ∈ [((0 : Nat), ones)], Fits (List.replicate 1024 0#8).length g := by
  intro g hg
  rw [List.mem_singleton] at hg
  subst hg
  have h : (0 + secs ones.length) * 256 ≤ (List.replicate 1024 0#8).length := by rw [ones_length, secs_300, List.length_replicate]; omega
  exact ⟨by rw [ones_length]; omega, h⟩
set_option maxRecDepth 8000 in
theorem left3_at (j : Nat) : left3[j]? = if j < 512 ∧ bitOf 2 (j / 256) = true then (pad ones)[j]? else (List.replicate 1024 0#8)[j]? := by
  have h := keepG_at (im := List.replicate 1024 0#8) (g := (0, ones)) (fits3 (0, ones) (List.mem_singleton.2 rfl)) 2 j
  have e : left3 = keepG (List.replicate 1024 0#8) (0, ones) 2 := by
    unfold left3 crashed
    rw [List.length_singleton, crashTo, crashTo, List.getD_cons_zero, List.getD_cons_zero]
  rw [e, h]
  show (if 0 * 256 ≤ j ∧ j < (0 + secs ones.length) * 256 ∧ bitOf 2 ((j - 0 * 256) / 256) = true then (pad ones)[j - 0 * 256]? else _) = _
  rw [ones_length, secs_300]
  simp only [Nat.zero_mul, Nat.zero_le, true_and, Nat.sub_zero, Nat.zero_add]
set_option maxRecDepth 8000 in
theorem left3_length : left3.length = 1024 := by
  have := crashTo_length (safe := List.replicate 1024 0#8) (gs := [(0, ones)]) fits3 [2] 1 (Nat.le_refl _)
  rw [List.length_replicate] at this
  unfold left3 crashed
  rw [List.length_singleton]
  exact this
theorem pad_ones (j : Nat) : (pad ones)[j]? = if j < 300 then some 1#8 else if j < 512 then some 0#8 else none := by
  unfold pad
  rw [ones_length, secs_300]
  by_cases h : j < 300
  · rw [if_pos h, List.getElem?_append_left (by rw [ones_length]; exact h)]
    unfold ones; rw [List.getElem?_replicate, if_pos h]
  · rw [if_neg h, List.getElem?_append_right (by rw [ones_length]; omega), ones_length, List.getElem?_replicate]
    by_cases h2 : j < 512
    · rw [if_pos h2, if_pos (by omega)]
    · rw [if_neg h2, if_neg (by omega)]
theorem zeros_at (j : Nat) (h : j < 1024) : (List.replicate 1024 0#8)[j]? = some 0#8 := by rw [List.getElem?_replicate, if_pos h]
theorem left3_vals : bt left3 0 = 0 ∧ bt left3 256 = 1 ∧ bt left3 299 = 1 ∧ bt left3 300 = 0 := by
  have b0 : bitOf 2 (0 / 256) = false := by decide
  have b1 : bitOf 2 (256 / 256) = true := by decide
  unfold bt
  simp only [List.getD, left3_at, pad_ones, b0, b1]
  refine ⟨?_, ?_, ?_, ?_⟩
  · rw [if_neg (by simp), zeros_at 0 (by omega)]; rfl
  · rfl
  · rfl
  · rfl

/-- the first k cells are 1 -/
def someOnes (k : Nat) : List (BitVec 8) := List.replicate k 1#8 ++ List.replicate (300 - k) 0#8
theorem someOnes_length (k : Nat) (h : k ≤ 300) : (someOnes k).length = 300 := by unfold someOnes; rw [List.length_append, List.length_replicate, List.length_replicate]; omega
theorem someOnes_step (k : Nat) (h : k < 300) : (vals (someOnes k)).set k (.int .u8 1) = vals (someOnes (k + 1)) := by
  unfold someOnes
  rw [vals_append, vals_append, show 300 - k = (300 - (k + 1)) + 1 by omega, List.replicate_succ, List.replicate_succ']
  generalize 300 - (k + 1) = m
  have e : (vals (List.replicate k 1#8)).length = k := by rw [vals_length, List.length_replicate]
  rw [List.set_append_right _ _ (by omega), e, Nat.sub_self, vals_append]
  simp [vals]

theorem made_blk (u : World) (N : Nat) : Blk (u.alloc (.cells (madeCells #[.int .u8 0] N) 5)) u.heap.size 5 (vals (List.replicate N 0#8)) := by
  have e : (madeCells #[Value.int .u8 0] N) = (List.replicate N (Value.int .u8 0)).toArray := by
    apply Array.ext
    · simp [madeCells]
    · intro i h1 h2; simp [madeCells, Nat.mod_one]
  rw [vals_zeros, e]; exact Blk.new' u _ _

set_option maxRecDepth 8000 in
set_option maxHeartbeats 1000000 in
theorem known3_any (w : World) :
    Calls Try.prog 14 #[] w fun e w' => e = .returned (.bool true) ∧ Below w.heap.size w w' := by
  go_enter Try.func14, Try.ntmps14
  go_wp2_with fail
  refine (New_yes 4 w (by omega) (by omega)).mono ?_
  rintro e w1 ⟨g, s, m, rfl, ok1, hg1, hs1, hm1, hb1⟩
  have hmk := make_bytes 300 300 rfl (by omega)
  have mb : Below w1.heap.size w1 (w1.alloc (.cells (madeCells #[.int .u8 0] 300) 5)) := (Below.refl _ _).alloc (Nat.le_refl _) _
  have mB : Blk (w1.alloc (.cells (madeCells #[.int .u8 0] 300) 5)) w1.heap.size 5 (vals (someOnes 0)) := made_blk w1 300
  have K1 : Hid _ := And.intro ok1 (And.intro mB (And.intro mb hb1))
  clear ok1 mB mb hb1
  go_wp2_with fail
  generalize w1.alloc (.cells (madeCells #[.int .u8 0] 300) 5) = w2 at *
  go_loopw [4] (fun i wr => ∃ k : Nat, k ≤ 300 ∧ i = .int .i64 k ∧ Blk wr w1.heap.size 5 (vals (someOnes k)) ∧ w2.grownBy wr (some w1.heap.size)) (fun i _ => 300 - (intOf i).toNat)
  case atStart => exact ⟨0, by omega, rfl, K1.out.2.1, ⟨rfl, rfl, rfl, Nat.le_refl _, fun _ _ _ => rfl⟩⟩
  case round =>
    obtain ⟨k, hk, rfl, hB, hG⟩ := hrel
    have hl : (vals (someOnes k)).length = 300 := by rw [vals_length]; exact someOnes_length k hk
    by_cases hlt : k < 300
    · have q1 : (k : Int) < 300 := by omega
      obtain ⟨old, hc⟩ : ∃ old, wr.cell? ⟨w1.heap.size, k, none⟩ = some old := ⟨_, (hB.cell (by rw [hl]; unfold maxLen; omega) k (by omega)).trans (List.getElem?_eq_getElem (by omega))⟩
      have hf := hB.frozen (by rw [hl]; unfold maxLen; omega) k
      have B' := hB.set k (.int .u8 1)
      rw [someOnes_step k hlt] at B'
      have F : Hid _ := And.intro B' (grown_trans hG (grown_set wr w1.heap.size k (.int .u8 1)))
      clear hB hG B' hl K1 hmk
      go_wp2
      go_roundw
      case rel => exact ⟨k + 1, by omega, by go_num, F.out.1, F.out.2⟩
      case measure => simp [intOf]; omega
    · obtain rfl : k = 300 := by omega
      have hO : Own wr 0 (.slice (some ⟨w1.heap.size, 0, none⟩) ones.length 300) ones := by
        have e : someOnes 300 = ones := by unfold someOnes ones; rw [Nat.sub_self]; simp
        rw [e] at hB
        exact blk_own hB (by rw [vals_length, ones_length]) (by rw [← vals_length ones, List.take_length]) (by rw [ones_length]; omega) (by unfold maxLen; omega) (Nat.zero_le _)
      obtain ⟨a0, cap0, hv0, _, _, hr0, -, -⟩ := hO.open
      simp only [Value.slice.injEq] at hv0
      obtain ⟨rfl, -, rfl⟩ := hv0
      obtain ⟨ok1, mB, mb, hb1⟩ := K1.out
      have z1 := hb1.size
      have z2 := mb.size
      have okr := (ok1.later mb).turned (turned_grown (R := fun k => k = w1.heap.size) hG (fun k hk => by cases hk; rfl)) (fun k hk e => by have := ok1.lt k hk; omega)
      have hbr : Below w.heap.size w wr := (below_then hb1 mb).trans (grown_below hG _ z1 (by omega))
      have hW := Write_ok g _ _ 0 (some ⟨w1.heap.size, 0, none⟩) 300 ones wr okr (wf_new 4 (by omega) (by omega)) rfl hr0 (by rw [ones_length]; omega) (fun e => by cases e) (by rw [ones_length]; omega) (by rw [ones_length, secs_300, Dm.n_of (n := 4) (List.length_replicate ..)]; omega) (by simp)
      rw [ones_length, show ((0 : Nat) : Int) = 0 from rfl] at hW
      have K2 : Hid _ := And.intro hW hbr
      clear hW hbr okr hb1 mb mB ok1 hr0 hO hB hG K1 hmk
      go_wp2_with fail
      refine (Calls.mono K2.out.1) ?_
      rintro e w3 ⟨p3, rfl, st3⟩
      have ok3 := st3.ok
      have hb3 : Below w.heap.size w w3 := K2.out.2.trans (st3.below w.heap.size K2.out.2.size (fun k hk => by simp [dk] at hk; rcases hk with rfl | rfl | rfl <;> assumption))
      have hw3 := (wf_new 4 (by omega) (by omega)).write 0 ones (by rw [ones_length]; omega) (by rw [ones_length, secs_300, Dm.n_of (n := 4) (List.length_replicate ..)]; omega)
      have wr3 : ∀ k ∈ (dk g p3 ⟨List.replicate (4 * 256) 0#8, [] ++ [(0, ones)], false, false⟩).W, w.heap.size ≤ k := fun k hk => by
        rcases st3.writes k hk with hk | hk
        · simp [dk] at hk; rcases hk with rfl | rfl | rfl <;> assumption
        · have := K2.out.2.size; omega
      have K3 : Hid _ := And.intro ok3 (And.intro hb3 (And.intro hw3 wr3))
      clear st3 ok3 hb3 hw3 wr3 K2
      go_wp2_with fail
      obtain ⟨ok3, hb3, hw3, wr3⟩ := K3.out
      have b4 : Below w3.heap.size w3 (w3.alloc (.cells #[.int .i64 2] 3)) := (Below.refl _ _).alloc (Nat.le_refl _) _
      have B4 : Blk (w3.alloc (.cells #[.int .i64 2] 3)) w3.heap.size 3 [.int .i64 2] := Blk.new' _ _ _
      have z4 := B4.lt
      have hI : IRow (w3.alloc (.cells #[.int .i64 2] 3)) (some ⟨w3.heap.size, 0, none⟩) [2] :=
        ⟨fun x hx => by rw [List.mem_singleton] at hx; subst hx; omega, .inr ⟨_, _, rfl, fun i hi => by
          obtain rfl : i = 0 := by simpa using hi
          exact B4.cell (by simp [maxLen]) 0 (by simp)⟩⟩
      have hsl := ok3.lt p3.s (.inl (by simp [dk]))
      have hC := Crash_any g p3 _ (some ⟨w3.heap.size, 0, none⟩) 1 [2] _ (ok3.later b4) hw3 (by simp) (by simp) (by simp) hI (fun _ y hy => by cases hy; show w3.heap.size ≠ p3.s; omega)
      have eC : crashed (List.replicate (4 * 256) 0#8) ([] ++ [(0, ones)]) [2] = left3 := rfl
      rw [show ([2] : List Int).length = 1 from rfl] at hC
      have hwC := hw3.crash [2]
      have hb4 := below_then hb3 b4
      have K4 : Hid _ := And.intro hC (And.intro hwC (And.intro hb4 wr3))
      clear hC hwC hb4 wr3 hI hsl z4 B4 b4 ok3 hb3 hw3 K3
      refine (Calls.mono K4.out.1) ?_
      rintro e w5 ⟨rfl, st5⟩
      obtain ⟨-, hwC, hb4, wr3⟩ := K4.out
      have ok5 := st5.ok
      have hb5 : Below w.heap.size w w5 := hb4.trans (st5.below w.heap.size hb4.size wr3)
      rw [show ({ safe := List.replicate (4 * 256) 0#8, gs := [] ++ [(0, ones)], bad := false, gone := false } : Dm).safe = List.replicate (4 * 256) 0#8 from rfl, show ({ safe := List.replicate (4 * 256) 0#8, gs := [] ++ [(0, ones)], bad := false, gone := false } : Dm).gs = [] ++ [(0, ones)] from rfl, eC] at ok5 hwC
      have hn4 : (⟨left3, [], false, false⟩ : Dm).n = 4 := Dm.n_of (by show left3.length = _; rw [left3_length])
      have hR := Read_yes g _ _ 0 2 w5 ok5 hwC (by omega) (by rw [hn4]; omega)
      rw [show ((0 : Nat) : Int) = 0 from rfl, show ((2 : Nat) : Int) = 2 from rfl] at hR
      have K5 : Hid _ := And.intro hR hb5
      clear hR hb5 ok5 hwC hb4 wr3 K4 st5 eC hn4
      go_wp2_with fail
      refine (Calls.mono K5.out.1) ?_
      rintro e w6 ⟨v, rfl, ho6, hb6⟩
      have hb6' := below_then K5.out.2 hb6
      have hX : ((nowOf left3 []).drop (0 * 256)).take (2 * 256) = left3.take 512 := by rw [nowOf_nil]; rfl
      have ho6' : Own w6 w5.heap.size v (left3.take 512) := by rw [← hX]; exact ho6
      have hlen : (left3.take 512).length = 512 := by rw [List.length_take, left3_length]; rfl
      obtain ⟨kk, ck, rfl, hk1, hk2⟩ := ho6'.some (by rw [hlen]; omega)
      obtain ⟨a6, cap6, hv6, hle6, _, hr6, -, -⟩ := ho6'.open
      simp only [Value.slice.injEq] at hv6
      obtain ⟨rfl, -, rfl⟩ := hv6
      rw [hlen] at hle6
      obtain ⟨v0, v1, v2, v3⟩ := left3_vals
      have hbt : ∀ j, j < 512 → w6.cell? ⟨kk, j, none⟩ = some (.int .u8 (bt left3 j)) := by
        intro j hj
        rcases hr6 with h0 | ⟨b, off, hb, hc⟩
        · rw [h0] at hlen; simp at hlen
        · cases hb
          have := hc j (by rw [hlen]; exact hj)
          rw [Nat.zero_add] at this
          rw [this]
          unfold bt
          rw [List.getD, List.getD, List.getElem?_take, if_pos hj]
      have d0 := hbt 0 (by omega)
      have d1 := hbt 256 (by omega)
      have d2 := hbt 299 (by omega)
      have d3 := hbt 300 (by omega)
      rw [v0] at d0
      rw [v1] at d1
      rw [v2] at d2
      rw [v3] at d3
      rw [hlen]
      have F : Hid _ := hb6'
      clear hbt hr6 ho6 ho6' hX hlen v0 v1 v2 v3 hb6 hb6' K5
      go_wp2
      go_ret
      exact ⟨rfl, F.out⟩
end Go.Proofs.Ytmhnlfgakpelkaa
