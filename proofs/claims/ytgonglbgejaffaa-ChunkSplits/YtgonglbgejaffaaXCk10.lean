/- slices.Contains of bools; slices.Concat of bytes. -/
import Derived.Test.YtgonglbgejaffaaXCk6
import Derived.Lib.AppendZeros
namespace Go.Proofs.Ytgonglbgejaffaa
open Go.RowKit
set_option linter.unusedVariables false
set_option linter.unusedSimpArgs false
set_option maxRecDepth 4000

set_option maxHeartbeats 2000000 in
theorem indexB_any (t : Nat) (bs : List Bool) (w : World) (hB : Blk w t 4 (bs.map .bool)) (hl : bs.length ≤ 1000) :
    Calls Try.prog 66 #[.slice (some ⟨t, 0, none⟩) bs.length bs.length, .bool false] w fun e w' => (∃ i : Int, e = .returned (.int .i64 i) ∧ (decide (i ≥ 0) = bs.any (fun b => !b))) ∧ w' = w := by
  have HA : Hid (∀ k (h : k < bs.length), w.cell? ⟨t, k, none⟩ = some (.bool bs[k])) := fun k h => by rw [blk_at hB k, List.getElem?_map, List.getElem?_eq_getElem h]; rfl
  clear hB
  go_enter Try.func66, Try.ntmps66
  go_wp2_with fail
  go_loopw [8] (fun iv wr => ∃ (k : Nat), iv = .int .i64 k ∧ k ≤ bs.length ∧ (∀ x ∈ bs.take k, x = true) ∧ wr = w) (fun iv _ => bs.length - (intOf iv).toNat)
  case atStart => exact ⟨0, rfl, by omega, by simp, rfl⟩
  case round =>
    obtain ⟨k, rfl, hk, hno, rfl⟩ := hrel
    by_cases hlt : k < bs.length
    · have k1 := HA.out k hlt
      have q1 : (k : Int) < bs.length := by omega
      have hsn : bs.take (k + 1) = bs.take k ++ [bs[k]] := List.take_succ_eq_append_getElem hlt
      have hm : bs[k] ∈ bs := List.getElem_mem _
      generalize bs[k] = x at *
      have G : Hid _ := And.intro hno (And.intro hsn hm)
      clear hno hsn hm
      cases x with
      | false =>
        go_wp2
        go_ret
        refine ⟨⟨_, rfl, ?_⟩, rfl⟩
        rw [decide_eq_true (by omega)]
        exact (List.any_eq_true.2 ⟨false, G.out.2.2, rfl⟩).symm
      | true =>
        have F2 : Hid (∀ y ∈ bs.take (k + 1), y = true) := by
          rw [G.out.2.1]
          intro y hy
          rcases List.mem_append.1 hy with hy | hy
          · exact G.out.1 y hy
          · exact List.mem_singleton.1 hy
        clear G
        go_wp2
        go_roundw
        case rel => exact ⟨k + 1, by go_num, by omega, F2.out, by first | rfl | trivial⟩
        case measure => simp [intOf]; omega
    · obtain rfl : k = bs.length := by omega
      rw [List.take_length] at hno
      have G : Hid _ := And.intro hno trivial
      clear hno
      go_wp2
      go_ret
      refine ⟨⟨_, rfl, ?_⟩, rfl⟩
      rw [decide_eq_false (by omega)]
      symm
      rw [List.any_eq_false]
      intro x hx
      rw [G.out.1 x hx]; simp
set_option maxHeartbeats 2000000 in
theorem containsB_any (t : Nat) (bs : List Bool) (w : World) (hB : Blk w t 4 (bs.map .bool)) (hl : bs.length ≤ 1000) :
    Calls Try.prog 43 #[.slice (some ⟨t, 0, none⟩) bs.length bs.length, .bool false] w fun e w' => e = .returned (.bool (bs.any (fun b => !b))) ∧ w' = w := by
  have HI : Hid _ := indexB_any t bs w hB hl
  clear hB
  go_enter Try.func43, Try.ntmps43
  go_wp2_with fail
  refine (Calls.mono HI.out) ?_
  rintro e _ ⟨⟨i, rfl, hi⟩, rfl⟩
  have G : Hid _ := And.intro hi trivial
  clear hi HI
  go_wp2
  go_ret
  exact ⟨by rw [← G.out.1]; rfl, rfl⟩
theorem info_byte : (Try.prog.info? 5).map (fun i => (i.zero, i.size, i.bytes)) = some (some (.int .u8 0), 1, 1) := by kernel_rfl
theorem zeros_byte (n : Nat) : (Builtin.zeroCells (Value.int .u8 0).cells n).size = n := by simp [Builtin.zeroCells, Value.cells]
set_option maxHeartbeats 2000000 in
theorem growN_any (n : Nat) (w : World) (hn : n ≤ 1000000) :
    Calls Try.prog 67 #[.slice none 0 0, .int .i64 n] w fun e w' => ∃ z, e = .returned z ∧ Own w' w.heap.size z [] ∧ Below w.heap.size w w' := by
  by_cases h0 : 0 < n
  · obtain ⟨i0, hi, hz0, hz1, hz2⟩ := info_parts info_byte
    have R := fun ty => Lib.run_append_nil_zeros (P := Try.prog) w 22 3 ty 5 i0 (.int .u8 0) .i64 .i64 Try.underlying22 Try.underlying3 hi hz0 n h0 (by rw [hz1]; omega) (by omega) (by rw [hz2]; omega)
    have hge := grownCap_ge w n 0 5
    have hle := grownCap_le_maxLen w n 0 5 (by unfold maxLen; omega)
    generalize grownCap w n 0 5 = G at *
    have b1 : Below w.heap.size w (w.drew.alloc (.cells (Builtin.zeroCells (Value.int .u8 0).cells n ++ Builtin.zeroCells (Value.int .u8 0).cells (G - n)) 5)) := (Below.refl _ _).drew.alloc (Nat.le_refl _) _
    have o1 : Own (w.drew.alloc (.cells (Builtin.zeroCells (Value.int .u8 0).cells n ++ Builtin.zeroCells (Value.int .u8 0).cells (G - n)) 5)) w.heap.size (.slice (some ⟨w.heap.size, 0, none⟩) 0 G) [] := by
      have hb := Blk.new' w.drew 5 (Builtin.zeroCells (Value.int .u8 0).cells n ++ Builtin.zeroCells (Value.int .u8 0).cells (G - n)).toList
      unfold Blk at hb
      rw [Array.toArray_toList] at hb
      refine ⟨rfl, .inr ⟨w.heap.size, G, _, rfl, Nat.le_refl _, hb, Nat.zero_le _, hle, ?_, rfl⟩⟩
      rw [Array.size_append, zeros_byte, zeros_byte]; omega
    have HR : Hid _ := And.intro R (And.intro o1 b1)
    clear R o1 b1 hle
    have q1 : (0 : Int) < (n : Int) := by omega
    have q2 : ¬ (G = 0) := by omega
    have q3 : (n : Int) ≤ 1000000 := by omega
    go_enter Try.func67, Try.ntmps67
    go_wp2_with (at_builtin; refine Lib.wpList_append_run _ rfl _ _ _ _ rfl _ _ rfl rfl _ _ (HR.out.1 _) ?_)
    go_wp2
    go_ret
    exact ⟨_, rfl, HR.out.2⟩
  · obtain rfl : n = 0 := by omega
    go_enter Try.func67, Try.ntmps67
    go_wp2
    go_ret
    exact ⟨_, rfl, Own.nil _ _, Below.refl _ _⟩
end Go.Proofs.Ytgonglbgejaffaa

/- slices.Concat of bytes. -/
namespace Go.Proofs.Ytgonglbgejaffaa
open Go.RowKit
set_option linter.unusedVariables false
set_option linter.unusedSimpArgs false
set_option maxRecDepth 4000

theorem flat_take {α : Type} (ls : List (List α)) (k : Nat) (h : k < ls.length) : (ls.take (k + 1)).flatten = (ls.take k).flatten ++ ls[k] := by
  rw [List.take_succ_eq_append_getElem h, List.flatten_append]; simp
theorem flat_take_le {α : Type} (ls : List (List α)) (k : Nat) : (ls.take k).flatten.length ≤ ls.flatten.length := by
  have : ls.flatten = (ls.take k).flatten ++ (ls.drop k).flatten := by rw [← List.flatten_append, List.take_append_drop]
  rw [this, List.length_append]; omega
/-- how many bytes the first k have -/
def flen (ls : List (List (BitVec 8))) (k : Nat) : Nat := (ls.take k).flatten.length
set_option maxHeartbeats 4000000 in
theorem concat_any (d : Nat) (ls : List (List (BitVec 8))) (vs : List Value) (w : World) (hD : Blk w d 22 vs) (hE : ∀ (k : Nat) (h : k < ls.length), ∃ v, vs[k]? = some v ∧ Own w 0 v ls[k]) (hl : ls.length ≤ 1000) (hm : ls.flatten.length ≤ 1000000) :
    Calls Try.prog 44 #[.slice (some ⟨d, 0, none⟩) ls.length ls.length] w fun e w' => ∃ z, e = .returned z ∧ Own w' w.heap.size z ls.flatten ∧ Below w.heap.size w w' := by
  have HE : Hid (∀ (k : Nat) (h : k < ls.length), ∃ a c, w.cell? ⟨d, k, none⟩ = some (.slice a ls[k].length c) ∧ Row w a ls[k] ∧ (a = none → c = 0) ∧ ls[k].length ≤ c) := fun k h => by
    obtain ⟨v, hv, ho⟩ := hE k h
    obtain ⟨a, c, rfl, h1, -, h2, h3, -⟩ := ho.open
    exact ⟨a, c, by rw [blk_at hD k, hv], h2, h3, h1⟩
  have HD : Hid _ := And.intro hD trivial
  clear hE hD
  have HG : Hid (∀ n W, n ≤ 1000000 → Calls Try.prog 67 #[.slice none 0 0, .int .i64 ((n : Nat) : Int)] W fun e w' => ∃ z, e = .returned z ∧ Own w' W.heap.size z [] ∧ Below W.heap.size W w') := fun n W h => growN_any n W h
  go_enter Try.func44, Try.ntmps44
  go_wp2_with fail
  go_loopw [3, 11] (fun sv i wr => ∃ k : Nat, k ≤ ls.length ∧ i = .int .i64 k ∧ sv = .int .i64 (flen ls k : Nat) ∧ wr = w) (fun _ i _ => ls.length - (intOf i).toNat)
  case atStart => exact ⟨0, by omega, rfl, rfl, rfl⟩
  case round =>
    obtain ⟨k, hk, rfl, rfl, hwr⟩ := hrel
    obtain rfl := hwr.symm
    (try clear hwr)
    by_cases hlt : k < ls.length
    · obtain ⟨a, c, c1, -, -, -⟩ := HE.out k hlt
      have hfl := flat_take ls k hlt
      have hle1 := flat_take_le ls (k + 1)
      rw [hfl, List.length_append] at hle1
      have hln : flen ls (k + 1) = flen ls k + ls[k].length := by unfold flen; rw [hfl, List.length_append]
      have hle2 : flen ls k + ls[k].length ≤ 1000000 := by unfold flen; omega
      clear hle1
      have q1 : (k : Int) < (ls.length : Int) := by omega
      have HF : Hid _ := And.intro hln trivial
      clear hfl hln
      generalize ls[k] = lk at *
      generalize flen ls k = acc at *
      have q2 : (acc : Int) + (lk.length : Int) ≤ 1000000 := by omega
      have q3 : ¬ ((acc : Int) + (lk.length : Int) < 0) := by omega
      clear hle2
      go_wp2
      go_roundw
      case rel => exact ⟨k + 1, by omega, by go_num, by rw [HF.out.1]; go_num, by first | rfl | trivial⟩
      case measure => simp [intOf]; omega
    · obtain rfl : k = ls.length := by omega
      have hfe : flen ls ls.length ≤ 1000000 := by unfold flen; rw [List.take_length]; exact hm
      have NG : Hid _ := HG.out (flen ls ls.length) w hfe
      generalize flen ls ls.length = T at *
      go_wp2_with fail
      refine (Calls.mono NG.out) ?_
      rintro e w2 ⟨z, rfl, o2, b2⟩
      have O2 : Hid _ := And.intro o2 b2
      clear NG HG o2 b2
      go_wp2_with fail
      go_loopw [6, 27] (fun ov i wr => ∃ k : Nat, k ≤ ls.length ∧ i = .int .i64 k ∧ Own wr w.heap.size ov (ls.take k).flatten ∧ Below w.heap.size w wr) (fun _ i _ => ls.length - (intOf i).toNat)
      case atStart => exact ⟨0, by omega, rfl, O2.out.1, O2.out.2⟩
      case round =>
        clear O2
        obtain ⟨k, hk, rfl, ho, hb⟩ := hrel
        by_cases hlt : k < ls.length
        · obtain ⟨a, c, c0, g3, hnil, g2⟩ := HE.out k hlt
          have c1 : wr.cell? ⟨d, k, none⟩ = some (.slice a ls[k].length c) := by
            rw [blk_at (HD.out.1.laterB hb) k, ← blk_at HD.out.1 k]
            exact c0
          have hr := g3.later hb
          have hfl := flat_take ls k hlt
          have hle1 := flat_take_le ls (k + 1)
          rw [hfl, List.length_append] at hle1
          have q1 : (k : Int) < (ls.length : Int) := by omega
          have HF : Hid _ := And.intro ho (And.intro hr (And.intro hb hfl))
          clear ho hr hb hfl g3 HE c0 HD
          generalize ls[k] = lk at *
          generalize (ls.take k).flatten = acc at *
          go_wp2_with (at_builtin; refine wpList_append_bytes _ rfl _ _ rfl w.heap.size u6 acc rfl HF.out.1 a lk.length c lk rfl rfl HF.out.2.1 hnil g2 (by omega) (Below.size HF.out.2.2.1) ?_)
          intro v' w' ho' hg'
          have hb' : Below w.heap.size w w' := (HF.out.2.2.1).grown hg' (Below.size HF.out.2.2.1) (own_block HF.out.1)
          have F : Hid _ := And.intro ho' hb'
          rw [← HF.out.2.2.2] at F
          clear ho' hg' hb' HF c1
          go_wp2
          go_roundw
          case rel => exact ⟨k + 1, by omega, by go_num, F.out.1, F.out.2⟩
          case measure => simp [intOf]; omega
        · obtain rfl : k = ls.length := by omega
          rw [List.take_length] at ho
          have F : Hid _ := And.intro ho hb
          clear ho hb HE
          go_wp2
          go_ret
          exact ⟨_, rfl, F.out.1, F.out.2⟩
end Go.Proofs.Ytgonglbgejaffaa

/- Whole. -/
namespace Go.Proofs.Ytgonglbgejaffaa
open Go.RowKit
set_option linter.unusedVariables false
set_option linter.unusedSimpArgs false
set_option maxRecDepth 4000

/-- a piece is missing -/
def miss (m : CR) : Bool := (m.ps.map Option.isSome).any (fun b => !b)
def flat (m : CR) : List (BitVec 8) := (m.ps.map (fun o => o.getD [])).flatten
theorem flat_len (m : CR) : (flat m).length = lenOf m.ps := by unfold flat lenOf; rw [List.length_flatten, List.map_map]; rfl
set_option maxHeartbeats 4000000 in
theorem whole_no (p : CPl) (m : CR) (w : World) (h : (crOb p m).Ok w) (hid : ¬ m.id = 0) (hne : m.ps.length ≠ 0) (hn : m.ps.length ≤ 256) (hl : lenOf m.ps ≤ 65536) (hx : (m.ps.map Option.isSome).any (fun b => !b) = true) :
    Calls Try.prog 18 #[.pointer (some ⟨p.g, 0, none⟩)] w fun e w' => e = .returned (.tuple #[.slice none 0 0, .bool false]) ∧ Below w.heap.size w w' := by
  have hP := h.holds
  have hG := hP.blk
  unfold CPl.tv CPl.dv at hG
  rw [if_neg hne, if_neg hne] at hG
  have hT := hP.there hne
  have hTe : m.ps.map isB = (m.ps.map Option.isSome).map Value.bool := by rw [List.map_map]; rfl
  rw [hTe] at hT
  have HC : Hid _ := containsB_any p.t (m.ps.map Option.isSome) w hT (by rw [List.length_map]; omega)
  rw [List.length_map, hx] at HC
  have hD := hP.data hne
  have q1 : (lenOf m.ps : Int) ≤ 65536 := by omega
  have q2 : (m.id == 0) = false := by rw [beq_eq_false_iff_ne]; exact hid
  have q3 : decide ((65536 : Int) < (lenOf m.ps : Int)) = false := by rw [decide_eq_false_iff_not]; omega
  have HG : Hid _ := And.intro hG trivial
  have y0 := blk_at hG 0
  have y2 := blk_at hG 2
  have y3 := blk_at hG 3
  have y4 := blk_at hG 4
  simp only [List.getElem?_cons_zero, List.getElem?_cons_succ] at y0 y2 y3 y4
  clear h hP hG hT hTe hD hx
  generalize lenOf m.ps = len at *
  generalize p.g = g at *
  generalize p.t = t at *
  generalize p.d = d at *
  clear y3 HG
  generalize m.ps.length = N at *
  generalize m.id = mid at *
  go_enter Try.func18, Try.ntmps18
  go_wp2_with fail
  refine (Calls.mono HC.out) ?_
  rintro e _ ⟨rfl, rfl⟩
  clear HC
  go_wp2
  go_ret2
  exact ⟨rfl, Below.refl _ _⟩
set_option maxHeartbeats 4000000 in
theorem whole_yes (p : CPl) (m : CR) (w : World) (h : (crOb p m).Ok w) (hid : ¬ m.id = 0) (hne : m.ps.length ≠ 0) (hn : m.ps.length ≤ 256) (hl : lenOf m.ps ≤ 65536) (hx : (m.ps.map Option.isSome).any (fun b => !b) = false) (hs : m.s = ((Crc.sum (flat m)).toNat : Int)) :
    Calls Try.prog 18 #[.pointer (some ⟨p.g, 0, none⟩)] w fun e w' => ∃ z, e = .returned (.tuple #[z, .bool true]) ∧ Own w' w.heap.size z (flat m) ∧ Below w.heap.size w w' := by
  have hP := h.holds
  have hG := hP.blk
  unfold CPl.tv CPl.dv at hG
  rw [if_neg hne, if_neg hne] at hG
  have hT := hP.there hne
  have hTe : m.ps.map isB = (m.ps.map Option.isSome).map Value.bool := by rw [List.map_map]; rfl
  rw [hTe] at hT
  have HC : Hid _ := containsB_any p.t (m.ps.map Option.isSome) w hT (by rw [List.length_map]; omega)
  rw [List.length_map, hx] at HC
  have hD := hP.data hne
  have HK : Hid _ := concat_any p.d (m.ps.map (fun o => o.getD [])) p.vs w hD (fun k hk => by
    have hk' : k < m.ps.length := by rw [List.length_map] at hk; exact hk
    obtain ⟨v, hv, ho⟩ := hP.each k m.ps[k] (List.getElem?_eq_getElem hk')
    exact ⟨v, hv, by rw [List.getElem_map]; exact ho⟩) (by rw [List.length_map]; omega) (by have := flat_len m; unfold flat at this; omega)
  rw [List.length_map, show (m.ps.map (fun o => o.getD [])).flatten = flat m from rfl] at HK
  have hfl := flat_len m
  have hfl2 : (flat m).length ≤ 65536 := by omega
  clear hfl
  rw [hs] at hG
  have q1 : (lenOf m.ps : Int) ≤ 65536 := by omega
  have q2 : (m.id == 0) = false := by rw [beq_eq_false_iff_ne]; exact hid
  have q3 : decide ((65536 : Int) < (lenOf m.ps : Int)) = false := by rw [decide_eq_false_iff_not]; omega
  have HG : Hid _ := And.intro hG trivial
  have y0 := blk_at hG 0
  have y2 := blk_at hG 2
  have y3 := blk_at hG 3
  have y4 := blk_at hG 4
  simp only [List.getElem?_cons_zero, List.getElem?_cons_succ] at y0 y2 y3 y4
  clear h hP hG hT hTe hD hx
  generalize lenOf m.ps = len at *
  generalize p.g = g at *
  generalize p.t = t at *
  generalize p.d = d at *
  generalize m.ps.length = N at *
  generalize m.id = mid at *
  generalize m.ad = ad at *
  clear hs
  generalize flat m = F at *
  have hS0 := (Crc.sum F).isLt
  go_enter Try.func18, Try.ntmps18
  go_wp2_with fail
  refine (Calls.mono HC.out) ?_
  rintro e _ ⟨rfl, rfl⟩
  clear HC
  go_wp2_with fail
  refine (Calls.mono HK.out) ?_
  rintro e w2 ⟨z, rfl, o2, b2⟩
  obtain ⟨a, cap, rfl, g1, g2, g3, -, -⟩ := o2.open
  have HSu : Hid (∀ W, Below w2.heap.size w2 W → Calls Try.prog 28 #[.slice a F.length cap] W fun e w' => e = .returned (.int .u32 ((Crc.sum F).toNat : Int)) ∧ W = w') := fun W hW => by
    refine (sum_any a F.length cap F W rfl (by unfold maxLen; omega) (g3.later hW)).mono ?_
    rintro e w' ⟨e1, e2⟩
    exact ⟨e1, e2.symm⟩
  have H2 : Hid _ := And.intro (HG.out.1.laterB b2) (And.intro o2 b2)
  clear HK o2 b2 g1 g2 g3 y0 y2 y3 y4 HG
  go_upto_region 4 with fail
  generalize ((Crc.sum F).toNat : Int) = ms at *
  refine wp_region_held_drew (S := fun W => Blk W g 74 [.int .i64 mid, .int .u32 ms, .slice (some ⟨t, 0, none⟩) N N, .slice (some ⟨d, 0, none⟩) N N, .int .i64 len, .int .i64 ad, .int .u32 0, .int .i32 0, .int .u32 0, .bool false] ∧ Below w2.heap.size w2 W) (by kernel_rfl) (⟨H2.out.1.laterB (Below.refl _ _).drew, (Below.refl _ _).drew⟩) (fun hS => ?_)
  refine any_take (i := 0) (v := ?_) rfl (by kernel_rfl) (by kernel_rfl) (by kernel_rfl) (by exact fun _ _ _ h => h) (by rfl) ?_ hS ?_
  rotate_left
  · ((intro w hSw; have y1 := blk_at hSw.1 1; simp only [List.getElem?_cons_zero, List.getElem?_cons_succ] at y1; clear hSw; go_simp) <;> with_reducible rfl)
  (try simp only [Act.put, List.setIfInBounds_toArray, List.set_cons_zero, List.set_cons_succ])
  refine any_take (i := 2) (v := ?_) rfl (by kernel_rfl) (by kernel_rfl) (by kernel_rfl) (by exact fun _ _ _ h => h) (by rfl) ?_ hS ?_
  rotate_left
  · ((intro w hSw; have y1 := blk_at hSw.1 1; simp only [List.getElem?_cons_zero, List.getElem?_cons_succ] at y1; clear hSw; go_simp) <;> with_reducible rfl)
  (try simp only [Act.put, List.setIfInBounds_toArray, List.set_cons_zero, List.set_cons_succ])
  refine any_take (i := 3) (v := ?_) rfl (by kernel_rfl) (by kernel_rfl) (by kernel_rfl) (by exact fun _ _ _ h => h) (by rfl) ?_ hS ?_
  rotate_left
  · ((intro w hSw; have y1 := blk_at hSw.1 1; simp only [List.getElem?_cons_zero, List.getElem?_cons_succ] at y1; clear hSw; go_simp) <;> with_reducible rfl)
  (try simp only [Act.put, List.setIfInBounds_toArray, List.set_cons_zero, List.set_cons_succ])
  refine any_take (i := 4) (v := ?_) rfl (by kernel_rfl) (by kernel_rfl) (by kernel_rfl) (by exact fun _ _ _ h => h) (by rfl) ?_ hS ?_
  rotate_left
  · ((intro w hSw; have y1 := blk_at hSw.1 1; simp only [List.getElem?_cons_zero, List.getElem?_cons_succ] at y1; clear hSw; go_simp) <;> with_reducible rfl)
  (try simp only [Act.put, List.setIfInBounds_toArray, List.set_cons_zero, List.set_cons_succ])
  refine any_take (i := 5) (v := ?_) rfl (by kernel_rfl) (by kernel_rfl) (by kernel_rfl) (by exact fun _ _ _ h => h) (by rfl) ?_ hS ?_
  rotate_left
  · ((intro w hSw; have y1 := blk_at hSw.1 1; simp only [List.getElem?_cons_zero, List.getElem?_cons_succ] at y1; clear hSw; go_simp) <;> with_reducible rfl)
  (try simp only [Act.put, List.setIfInBounds_toArray, List.set_cons_zero, List.set_cons_succ])
  refine any_one (i := 1) rfl (by kernel_rfl) (fun K hK => ?_)
  go_simp
  refine (Calls.mono (HSu.out _ hS.2)) ?_
  rintro e _ ⟨rfl, rfl⟩
  go_wp2_with fail
  refine hK.out _ _ hS ?_
  clear hK K
  refine any_take (i := 6) (v := ?_) rfl (by kernel_rfl) (by kernel_rfl) (by kernel_rfl) (by exact fun _ _ _ h => h) (by rfl) ?_ hS ?_
  rotate_left
  · ((intro w hSw; have y1 := blk_at hSw.1 1; simp only [List.getElem?_cons_zero, List.getElem?_cons_succ] at y1; clear hSw; go_simp) <;> with_reducible rfl)
  (try simp only [Act.put, List.setIfInBounds_toArray, List.set_cons_zero, List.set_cons_succ])
  refine wpAnyH_done (by kernel_rfl) ?_ _
  have K2 : Hid _ := And.intro (H2.out.2.1.later (Below.refl _ _).drew) (below_then H2.out.2.2 (Below.refl _ _).drew)
  clear H2 hS HSu
  go_wp2
  go_ret2
  exact ⟨_, rfl, K2.out⟩
end Go.Proofs.Ytgonglbgejaffaa
