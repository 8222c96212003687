/- The document's disk: sectors and bytes. -/
import Derived.Test.YtmhnlfgakpelkaaDkP
import Derived.Deep.CutRange
namespace Go.Proofs.Ytmhnlfgakpelkaa
open Go.RowKit
set_option linter.unusedVariables false

theorem flatten_take {α : Type} (ls : List (List α)) (k : Nat) (h : k < ls.length) : (ls.take (k + 1)).flatten = (ls.take k).flatten ++ ls[k] := by
  rw [List.take_succ_eq_append_getElem h, List.flatten_append]; simp
theorem flatten_take_le {α : Type} (ls : List (List α)) (k : Nat) : (ls.take k).flatten.length ≤ ls.flatten.length := by
  have h : ls.flatten = (ls.take k).flatten ++ (ls.drop k).flatten := by rw [← List.flatten_append, List.take_append_drop]
  rw [h, List.length_append]; omega

set_option maxHeartbeats 1000000 in
theorem rjoined_any (v : Value) (V : List Nat) (ls : List (List (BitVec 8))) (vs : List Value) (w : World) (hO : w.ownsRow 0 22 1 v ls.length vs) (hS : SsAt V w ls vs) (hV : ∀ k ∈ V, k < w.heap.size) (hl : ls.length ≤ 1000000) (hm : ls.flatten.length ≤ 140737488351232) (hsec : ∀ l ∈ ls, l.length = 256) :
    Calls Try.prog 46 #[v] w fun e w' => ∃ r, e = .returned r ∧ Own w' w.heap.size r ls.flatten ∧ Below w.heap.size w w' := by
  obtain ⟨qa, qc, rfl⟩ := own_form hO
  have H0 : Hid _ := And.intro hO (And.intro hS hV)
  clear hO hS hV
  go_enter Try.func46, Try.ntmps46
  go_wp2_with fail
  go_loopw [3, 4] (fun ov i wr => ∃ k : Nat, k ≤ ls.length ∧ i = .int .i64 k ∧ Own wr w.heap.size ov (ls.take k).flatten ∧ Below w.heap.size w wr) (fun _ i _ => ls.length - (intOf i).toNat)
  case atStart => exact ⟨0, by omega, rfl, Own.nil _ _, Below.refl _ _⟩
  case round =>
    obtain ⟨k, hk, rfl, ho, hb⟩ := hrel
    by_cases hlt : k < ls.length
    · obtain ⟨hO, hS, hV⟩ := H0.out
      obtain ⟨a, cap, g1, g2, g3⟩ := hS.get k hlt
      obtain ⟨qb, rfl⟩ : ∃ qb, qa = some ⟨qb, 0, none⟩ := by
        obtain ⟨_, ⟨h1, h2⟩ | ⟨gq, capq, cur, h1, _⟩⟩ := hO
        · omega
        · simp only [Value.slice.injEq] at h1; exact ⟨gq, h1.1⟩
      have hcq : ls.length ≤ qc := by
        obtain ⟨_, ⟨h1, h2⟩ | ⟨gq, capq, cur, h1, _, _, h2, _⟩⟩ := hO
        · omega
        · simp only [Value.slice.injEq] at h1; omega
      have hcell := World.ownsRow.cellAt hO k (by omega)
      rw [g1] at hcell
      have c1 := cell_later hb hcell
      have hr := g3.later hb
      have hfl := flatten_take ls k hlt
      have hle1 := flatten_take_le ls (k + 1)
      rw [hfl, List.length_append] at hle1
      have hnil : a = none → cap = 0 := by
        intro e; subst e
        rcases g3 with h0 | ⟨b, off, h1, _⟩
        · have := hsec _ (List.getElem_mem hlt); rw [h0] at this; simp at this
        · cases h1
      have q1 : (k : Int) < (ls.length : Int) := by omega
      have HF : Hid _ := And.intro ho (And.intro hr (And.intro hb hfl))
      clear ho hr hb hfl hO hS hV g1 g3 H0 hcell
      generalize ls[k] = lk at *
      generalize (ls.take k).flatten = acc at *
      go_wp2_with (at_builtin; refine wpList_append_bytes _ rfl _ _ rfl w.heap.size u3 acc rfl HF.out.1 a lk.length cap lk rfl rfl HF.out.2.1 hnil g2 (by omega) (Below.size HF.out.2.2.1) ?_)
      intro v' w' ho' hg'
      have hb' : Below w.heap.size w w' := (HF.out.2.2.1).grown hg' (Below.size HF.out.2.2.1) (own_block HF.out.1)
      have F : Hid _ := And.intro ho' hb'
      rw [← HF.out.2.2.2] at F
      clear ho' hg' hb' HF c1
      go_wp2
      go_roundw
      case rel => exact ⟨k + 1, by omega, by go_num, F.out.1, F.out.2⟩
      case measure => simp [intOf]; omega
    · obtain rfl : k = ls.length := by omega
      rw [List.take_length] at ho
      have F : Hid _ := And.intro ho hb
      clear ho hb H0
      go_wp2
      go_ret
      exact ⟨_, rfl, F.out.1, F.out.2⟩

/-- bytes as sectors -/
def chs (l : List (BitVec 8)) (k : Nat) : List (List (BitVec 8)) := (List.range k).map (secAt l)
theorem chs_succ (l : List (BitVec 8)) (k : Nat) : chs l (k + 1) = chs l k ++ [secAt l k] := by unfold chs; rw [List.range_succ, List.map_append]; rfl
theorem chs_length (l : List (BitVec 8)) (k : Nat) : (chs l k).length = k := by unfold chs; simp
/-- the first j bytes of a sector, 0 behind them -/
def filled (l : List (BitVec 8)) (k j : Nat) : List (BitVec 8) := (l.drop (k * 256)).take j ++ List.replicate (256 - j) 0#8
theorem filled_length (l : List (BitVec 8)) (k j : Nat) (h : j ≤ 256) (h2 : k * 256 + j ≤ l.length) : (filled l k j).length = 256 := by
  unfold filled; rw [List.length_append, List.length_take, List.length_drop, List.length_replicate]; omega
theorem filled_step (l : List (BitVec 8)) (k j : Nat) (h : j < 256) (h2 : k * 256 + j < l.length) : (vals (filled l k j)).set j (.int .u8 (bt l (k * 256 + j))) = vals (filled l k (j + 1)) := by
  unfold filled
  have e0 : ((l.drop (k * 256)).take j).length = j := by rw [List.length_take, List.length_drop]; omega
  have e1 : (l.drop (k * 256)).take (j + 1) = (l.drop (k * 256)).take j ++ [l.getD (k * 256 + j) 0#8] := by
    rw [List.take_succ_eq_append_getElem (by rw [List.length_drop]; omega)]
    congr 2
    rw [List.getElem_drop, List.getD, List.getElem?_eq_getElem h2]; rfl
  rw [e1, show 256 - j = (256 - (j + 1)) + 1 by omega, List.replicate_succ, vals_append, vals_append, vals_append]
  rw [List.set_append_right _ _ (by rw [vals_length, e0]; omega), vals_length, e0, Nat.sub_self]
  unfold bt
  simp [vals]
theorem filled_end (l : List (BitVec 8)) (k j : Nat) (hk : k < secs l.length) (hj : j = min ((k + 1) * 256) l.length - k * 256) : filled l k j = secAt l k := (part_pad l k j hk hj).2.2

set_option maxRecDepth 8000 in
set_option maxHeartbeats 2000000 in
theorem rsectors_any (a : Option Addr) (len cap : Nat) (l : List (BitVec 8)) (w : World) (hl : l.length = len) (hle : len ≤ cap) (hlm : len ≤ 1048576) (hr : Row w a l) :
    Calls Try.prog 30 #[.slice a len cap] w fun e w' => ∃ v V, e = .returned v ∧ (stOb v V (chs l (secs len))).Ok w' ∧ (∀ k, k ∈ (stOb v V (chs l (secs len))).W ∨ k ∈ V → w.heap.size ≤ k) ∧ Below w.heap.size w w' := by
  have HR : Hid _ := hr
  have hmk := make_bytes 256 256 rfl (by omega)
  clear hr
  go_enter Try.func30, Try.ntmps30
  go_wp2_with fail
  go_loopw [3, 4] (fun ov i wr => ∃ (k m : Nat) (V : List Nat), m = k * 256 ∧ k ≤ secs len ∧ i = .int .i64 m ∧ (stOb ov V (chs l k)).Ok wr ∧ (∀ j, j ∈ (stOb ov V (chs l k)).W ∨ j ∈ V → w.heap.size ≤ j) ∧ Below w.heap.size w wr) (fun _ i _ => 2000000 - (intOf i).toNat)
  case atStart =>
    exact ⟨0, 0, [], rfl, Nat.zero_le _, rfl, stOb_ok (vs := []) (World.ownsRow_nil _ _ _ _) trivial (fun k hk => by cases hk) (fun k hk => by simp [Value.ownBlock] at hk), (fun j hj => by simp [stOb, Value.ownBlock] at hj), Below.refl _ _⟩
  case round =>
    obtain ⟨k, m, V, hm, hk, rfl, ok, hnew, hb⟩ := hrel
    have hsd : secs len = (len + 255) / 256 := rfl
    by_cases hlt : m < len
    · have hks : k < secs len := by omega
      have q1 : (m : Int) < (len : Int) := by omega
      have q1b : decide ((m : Int) < (len : Int)) = true := decide_eq_true q1
      have mb : Below wr.heap.size wr (wr.alloc (.cells (madeCells #[.int .u8 0] 256) 5)) := (Below.refl _ _).alloc (Nat.le_refl _) _
      have mB : Blk (wr.alloc (.cells (madeCells #[.int .u8 0] 256) 5)) wr.heap.size 5 (vals (filled l k 0)) := made_blk wr 256
      have K1 : Hid _ := And.intro ok (And.intro hnew (And.intro hb (And.intro mb (And.intro mB hm))))
      clear ok hnew hb mb mB hsd
      obtain ⟨b, off, rfl, hcells⟩ : ∃ b off, a = some ⟨b, off, none⟩ ∧ ∀ i, i < l.length → w.cell? ⟨b, off + i, none⟩ = some (.int .u8 (bt l i)) := by
        rcases HR.out with h0 | h0
        · rw [h0] at hl; simp at hl; omega
        · exact h0
      have HC : Hid _ := And.intro hcells hl
      clear hcells HR hm hl
      go_wp2_with fail
      obtain ⟨wz, hwz⟩ : ∃ wz, wz = wr := ⟨_, rfl⟩
      subst hwz
      generalize hw2 : wz.alloc (.cells (madeCells #[.int .u8 0] 256) 5) = w2 at *
      clear hw2
      go_loopw [6] (fun i2 wr => ∃ j : Nat, j ≤ 256 ∧ m + j ≤ len ∧ i2 = .int .i64 j ∧ Blk wr wz.heap.size 5 (vals (filled l k j)) ∧ w2.grownBy wr (some wz.heap.size)) (fun i2 _ => 256 - (intOf i2).toNat)
      case atStart => exact ⟨0, by omega, by omega, rfl, K1.out.2.2.2.2.1, ⟨rfl, rfl, rfl, Nat.le_refl _, fun _ _ _ => rfl⟩⟩
      case round =>
        obtain ⟨j, hj1, hj2, rfl, hB, hG⟩ := hrel
        have HJ : Hid _ := And.intro hB hG
        clear hB hG
        go_upto_region 7 with fail
        go_cut [23] from 14 to 34 (fun c wx => c = .bool (decide (j < 256 ∧ m + j < len)) ∧ wx = wr)
        case first =>
          clear HJ K1 HC hmk
          by_cases t1 : (j : Int) < 256
          · by_cases t2 : (m : Int) + (j : Int) < (len : Int)
            · have t2b : decide ((m : Int) + (j : Int) < (len : Int)) = true := decide_eq_true t2
              go_wp2
              go_meet
              exact ⟨congrArg Value.bool (decide_eq_true (p := j < 256 ∧ m + j < len) (by omega)).symm, rfl⟩
            · have t2b : decide ((m : Int) + (j : Int) < (len : Int)) = false := decide_eq_false t2
              go_wp2
              go_meet
              exact ⟨congrArg Value.bool (decide_eq_false (p := j < 256 ∧ m + j < len) (by omega)).symm, rfl⟩
          · go_wp2
            go_meet
            exact ⟨congrArg Value.bool (decide_eq_false (p := j < 256 ∧ m + j < len) (by omega)).symm, rfl⟩
        case rest =>
        obtain ⟨rfl, hwc⟩ := hcut
        obtain rfl := hwc.symm
        clear hwc
        by_cases hgo : j < 256 ∧ m + j < len
        · have hdec : decide (j < 256 ∧ m + j < len) = true := decide_eq_true hgo
          rw [hdec]
          clear hdec
          obtain ⟨t1, t2⟩ := hgo
          obtain ⟨hB, hG⟩ := HJ.out
          obtain ⟨ok, hnew, hb, mb, mB, hm⟩ := K1.out
          obtain ⟨hcells, hl⟩ := HC.out
          have hfl := filled_length l k j hj1 (by omega)
          have hbz : Below w.heap.size w wr := (below_then hb mb).trans (grown_below hG _ hb.size (Nat.le_trans hb.size mb.size))
          have c1 := cell_later hbz (hcells (m + j) (by omega))
          obtain ⟨old, hc⟩ : ∃ old, wr.cell? ⟨wz.heap.size, j, none⟩ = some old := ⟨_, (hB.cell (by rw [vals_length, hfl]; unfold maxLen; omega) j (by rw [vals_length, hfl]; exact t1)).trans (List.getElem?_eq_getElem (by rw [vals_length, hfl]; exact t1))⟩
          have hf := hB.frozen (by rw [vals_length, hfl]; unfold maxLen; omega) j
          have B' := hB.set j (.int .u8 (bt l (m + j)))
          rw [hm, filled_step l k j t1 (by omega), ← hm] at B'
          have F : Hid _ := And.intro B' (grown_trans hG (grown_set wr wz.heap.size j (.int .u8 (bt l (m + j)))))
          generalize bt l (m + j) = bv at *
          have p2 : (m : Int) + (j : Int) < (len : Int) := by omega
          have p3 : (j : Int) < 256 := by omega
          clear hB hG B' hfl hbz ok hnew hb mb mB K1 HJ HC hmk hm hl hcells
          go_wp2
          go_roundw
          case rel => exact ⟨j + 1, by omega, by omega, by go_num, F.out.1, F.out.2⟩
          case measure => simp [intOf]; omega
        · have hdec : decide (j < 256 ∧ m + j < len) = false := decide_eq_false hgo
          rw [hdec]
          clear hdec
          obtain ⟨hB, hG⟩ := HJ.out
          obtain ⟨ok, hnew, hb, mb, mB, hm⟩ := K1.out
          obtain ⟨hcells, hl⟩ := HC.out
          have hfe := filled_end l k j (by rw [hl]; exact hks) (by rw [hl]; omega)
          have hsl := secAt_length l k (by rw [hl]; exact hks)
          rw [hfe] at hB
          have hO : Own wr wz.heap.size (.slice (some ⟨wz.heap.size, 0, none⟩) (secAt l k).length 256) (secAt l k) := blk_own hB (by rw [vals_length, hsl]) (by rw [← vals_length (secAt l k), List.take_length]) (by rw [hsl]; exact Nat.le_refl _) (by unfold maxLen; omega) (Nat.le_refl _)
          have bz : Below wz.heap.size wz wr := mb.trans (grown_below hG _ (Nat.le_refl _) mb.size)
          have b9 : Below wr.heap.size wr (wr.alloc (.cells #[.slice (some ⟨wz.heap.size, 0, none⟩) (secAt l k).length 256] 22)) := (Below.refl _ _).alloc (Nat.le_refl _) _
          have B9 : Blk (wr.alloc (.cells #[.slice (some ⟨wz.heap.size, 0, none⟩) (secAt l k).length 256] 22)) wr.heap.size 22 [.slice (some ⟨wz.heap.size, 0, none⟩) (secAt l k).length 256] := Blk.new' _ _ _
          rw [hsl] at b9 B9 hO
          have H8 : Hid _ := And.intro (below_then bz b9) (And.intro B9 (And.intro (hO.later b9) (And.intro ok (And.intro hnew (And.intro hb (And.intro hm (And.intro hsl (chs_length l k))))))))
          clear hB hG ok hnew hb mb mB K1 HJ HC hmk hm hl hcells hfe hsl hO bz b9 B9
          obtain ⟨L, hL⟩ : ∃ L, L = secAt l k := ⟨_, rfl⟩
          rw [← hL] at H8
          have HL : Hid _ := hL
          clear hL
          have hB8 := H8.out.2.1
          have hO8 := H8.out.2.2.1
          have hLl := H8.out.2.2.2.2.2.2.2.1
          have hcl : (chs l k).length ≤ 1000000 := by rw [H8.out.2.2.2.2.2.2.2.2]; have : secs len ≤ 5000 := by { unfold secs; omega }; omega
          have HB8 : Hid _ := (by rw [hLl]; exact hB8 : Blk (wr.alloc (.cells #[.slice (some ⟨wz.heap.size, 0, none⟩) 256 256] 22)) wr.heap.size 22 [.slice (some ⟨wz.heap.size, 0, none⟩) L.length 256])
          have HO8 : Hid _ := (by rw [hLl]; exact hO8 : Own (wr.alloc (.cells #[.slice (some ⟨wz.heap.size, 0, none⟩) 256 256] 22)) wz.heap.size (.slice (some ⟨wz.heap.size, 0, none⟩) L.length 256) L)
          clear hB8 hO8 hLl
          go_wp2_with (at_builtin; refine wpList_append_state _ rfl _ _ rfl u3 V (chs l k) rfl wz H8.out.2.2.2.1 H8.out.1 hcl wr.heap.size rfl wz.heap.size wz.heap.size 256 L HB8.out HO8.out (Nat.le_refl _) ?_)
          intro v9 w9 st9 hg9
          obtain ⟨-, -, -, ok, hnew, hb, hm, -, -⟩ := H8.out
          have hfin : (stOb v9 (wz.heap.size :: V) (chs l (k + 1))).Ok w9 := by rw [chs_succ, ← HL.out]; exact st9.ok
          have hnew' : ∀ j, j ∈ (stOb v9 (wz.heap.size :: V) (chs l (k + 1))).W ∨ j ∈ wz.heap.size :: V → w.heap.size ≤ j := by
            intro j hj
            have hz := hb.size
            rcases hj with hj | hj
            · rcases st9.writes j hj with e | e
              · exact hnew j (.inl e)
              · omega
            · rcases List.mem_cons.1 hj with rfl | hj
              · exact hz
              · exact hnew j (.inr hj)
          have hb' : Below w.heap.size w w9 := hb.trans (st9.below w.heap.size hb.size (fun j hj => hnew j (.inl hj)))
          have F : Hid _ := And.intro hfin (And.intro hnew' (And.intro hb' hm))
          clear hfin hnew' hb' hm ok hnew hb st9 hg9 H8 HB8 HO8 HL
          go_wp2
          go_roundw
          case rel => exact ⟨k + 1, m + 256, wz.heap.size :: V, by rw [F.out.2.2.2]; omega, by omega, by go_num, F.out.1, F.out.2.1, F.out.2.2.1⟩
          case measure => simp [intOf]; omega
    · have q1 : ¬ (m : Int) < (len : Int) := by omega
      obtain rfl : k = secs len := by omega
      have F : Hid _ := And.intro ok (And.intro hnew hb)
      clear ok hnew hb HR hmk hm hl
      go_wp2
      go_ret
      exact ⟨_, rfl, V, F.out.1, F.out.2.1, F.out.2.2⟩
end Go.Proofs.Ytmhnlfgakpelkaa
