/- sense: Ports, the program's and the document's. -/
import Derived.Test.YthgiifeifinngaaSe10
namespace Go.Proofs.Ythgiifeifinngaa
open Go.RowKit
set_option linter.unusedVariables false
set_option linter.unusedSimpArgs false
set_option maxRecDepth 4000

theorem all_no {l : List Int} {k : Nat} (hk : k < l.length) (h : stOk l[k] = false) : l.all stOk = false := by
  rw [List.all_eq_false]
  exact ⟨l[k], List.getElem_mem hk, by simp [h]⟩
theorem all_more {l : List Int} {k : Nat} (hk : k < l.length) (h0 : (l.take k).all stOk = true) (h : stOk l[k] = true) : (l.take (k + 1)).all stOk = true := by
  rw [List.take_succ_eq_append_getElem hk, List.all_append, h0]
  simp [h]
theorem getD_at {l : List Int} {k : Nat} (hk : k < l.length) : l.getD k 0 = l[k] := by
  rw [List.getD_eq_getElem?_getD, List.getElem?_eq_getElem hk]; rfl
theorem pt_3 {l : List Int} (h : 5 < l.length) : Hid (ptE l = 3 ∧ ptB l = []) := by
  have e : ptE l = 3 := if_pos h
  exact ⟨e, if_neg (by rw [e]; decide)⟩
theorem pt_1 {l : List Int} (h : ¬ 5 < l.length) (ha : l.all stOk = false) : Hid (ptE l = 1 ∧ ptB l = []) := by
  have e : ptE l = 1 := by unfold ptE; rw [if_neg h, if_neg (by rw [ha]; decide)]
  exact ⟨e, if_neg (by rw [e]; decide)⟩
theorem pt_0 {l : List Int} (h : ¬ 5 < l.length) (ha : l.all stOk = true) : Hid (ptE l = 0 ∧ ptB l = be 4 (BitVec.ofInt 64 ((l.length : Int) * 12)) ++ ptbs l l.length) := by
  have e : ptE l = 0 := by unfold ptE; rw [if_neg h, if_pos ha]
  exact ⟨e, if_pos e⟩
set_option maxHeartbeats 2000000 in
theorem ports_any (a : Option Addr) (cap : Nat) (l : List Int) (w : World) (V : VArg .i64 w a l.length cap l) :
    Calls Try.prog 26 #[.slice a l.length cap] w fun e w' => ∃ z, e = .returned (.tuple #[z, .int .i64 (ptE l)]) ∧ Own w' w.heap.size z (ptB l) ∧ Below w.heap.size w w' := by
  have HV : Hid _ := V
  clear V
  by_cases h5 : 5 < l.length
  · have e1 := pt_3 h5
    have d1 : (l.length : Int) > 5 := by omega
    clear h5
    go_enter Try.func26, Try.ntmps26
    go_wp2
    go_ret2
    refine ⟨.slice none 0 0, by rw [e1.out.1]; try rfl, ?_, Below.refl _ _⟩
    rw [e1.out.2]; exact Own.nil _ _
  have d1 : decide ((l.length : Int) > 5) = false := decide_eq_false (by omega)
  have v1 : IntKind.i64.wrap ((l.length : Int) * 12) = (l.length : Int) * 12 := by rw [IntKind.wrap_i64]; omega
  have F0 : Hid (Below w.heap.size w w) := Below.refl _ _
  go_enter Try.func26, Try.ntmps26
  have HN : Hid _ := NewWriter_any w.heap.size w F0.out.size
  go_wp2_with fail
  refine (Calls.mono HN.out) ?_
  rintro r u0 ⟨g, rfl, -, W0, b0⟩
  have J0 : Hid _ := And.intro W0 (below_then F0.out b0)
  clear W0 b0 HN
  have NN := wNum_any w.heap.size g _ ([]) 0 4 ((l.length : Int) * 12) u0 J0.out.1 (by simp)
  rw [wrNum_ok 4 ((l.length : Int) * 12) (wnE_4 (by omega))] at NN
  have HN : Hid _ := NN
  clear NN
  go_wp2_with fail
  refine (Calls.mono HN.out) ?_
  rintro r u1 ⟨rfl, x1, W1, -, t1⟩
  have J1 : Hid _ := And.intro W1 (J0.out.2.trans (wr_blw J0.out.1 t1))
  clear W1 t1 HN J0
  have HM : Hid _ := wEnd_any w.heap.size g _ ([] ++ be 4 (BitVec.ofInt 64 ((l.length : Int) * 12))) 0 u1 J1.out.1 (by simp [be4_len])
  go_wp2_with fail
  refine (Calls.mono HM.out) ?_
  rintro r we ⟨z, rfl, o5, b5⟩
  rw [show ∀ L, wrEnd L 0 = L from fun L => if_pos rfl] at o5
  have G : Hid _ := And.intro (o5.lower J1.out.2.size) (below_then J1.out.2 b5)
  clear o5 b5 HM J1
  go_wp2_with fail
  go_loopw [5, 25] (fun bv iv wr => ∃ k : Nat, k ≤ l.length ∧ iv = .int .i64 k ∧ Own wr w.heap.size bv (be 4 (BitVec.ofInt 64 ((l.length : Int) * 12)) ++ ptbs l k) ∧ Below w.heap.size w wr ∧ (l.take k).all stOk = true) (fun _ iv _ => l.length - (intOf iv).toNat)
  case atStart => exact ⟨0, by omega, rfl, by have := G.out.1; simpa [ptbs] using this, G.out.2, by simp⟩
  case round =>
    clear G
    obtain ⟨k, hk, rfl, ho, hb, hal⟩ := hrel
    by_cases hlt : k < l.length
    · obtain ⟨b, off, rfl, hc⟩ := HV.out.each (by omega)
      have hc1 := cl_later (hc k hlt) hb
      have q1 : (k : Int) < (l.length : Int) := by omega
      have JA : Hid (stOk l[k] = false → l.all stOk = false) := all_no hlt
      have JM : Hid (stOk l[k] = true → (l.take (k + 1)).all stOk = true) := all_more hlt hal
      have JG : Hid _ := getD_at hlt
      have hul := ptbs_len l k
      have JW : Hid _ := And.intro ho hb
      clear hc ho hb hal
      generalize l[k] = X at *
      go_wp2_with fail
      refine (Calls.mono (isState_any _ _)) ?_
      rintro e _ ⟨rfl, rfl⟩
      cases hX : stOk X with
      | false =>
        have e1 := pt_1 h5 (JA.out hX)
        clear hc1
        go_wp2
        go_ret2
        refine ⟨.slice none 0 0, by rw [e1.out.1]; try rfl, ?_, JW.out.2⟩
        rw [e1.out.2]; exact Own.nil _ _
      | true =>
        have HP : Hid _ := port_any k X wr (by omega)
        go_wp2_with fail
        refine (Calls.mono HP.out) ?_
        rintro e w5 ⟨z5, rfl, o5, b5⟩
        obtain ⟨a5, c5, rfl, hle5, -, hr5, hn5, -⟩ := o5.open
        have HF : Hid _ := And.intro (JW.out.1.later b5) (And.intro hr5 (below_then JW.out.2 b5))
        clear o5 b5 hr5 HP JW hc1
        go_wp2_with (at_builtin; refine wpList_append_bytes _ rfl _ _ rfl w.heap.size u5 _ rfl HF.out.1 a5 _ c5 (ptb k X) rfl rfl HF.out.2.1 hn5 hle5 (by rw [List.length_append, be4_len, hul]; simp [ptb]; omega) (Below.size HF.out.2.2) ?_)
        intro v' w' ho' hg'
        have hb' : Below w.heap.size w w' := (HF.out.2.2).grown hg' (Below.size HF.out.2.2) (own_block HF.out.1)
        have F : Hid (Own w' w.heap.size v' (be 4 (BitVec.ofInt 64 ((l.length : Int) * 12)) ++ ptbs l (k + 1)) ∧ Below w.heap.size w w' ∧ (l.take (k + 1)).all stOk = true) := ⟨by rw [ptbs, JG.out, ← List.append_assoc]; exact ho', hb', JM.out hX⟩
        clear ho' hg' hb' HF hul hle5 hn5
        go_wp2
        go_roundw
        case rel => exact ⟨k + 1, by omega, by go_num, F.out.1, F.out.2.1, F.out.2.2⟩
        case measure => simp [intOf]; omega
    · obtain rfl : k = l.length := by omega
      rw [List.take_length] at hal
      have e1 := pt_0 h5 hal
      have F : Hid _ := And.intro ho hb
      clear ho hb hal
      go_wp2
      go_ret2
      refine ⟨_, by rw [e1.out.1]; rfl, ?_, F.out.2⟩
      rw [e1.out.2]; exact F.out.1
theorem pt_row {W : World} {g : Nat} {t : TypeId} {k : Nat} {s : Int} (hk : k < 255) (hs : 0 ≤ s ∧ s < 256) (h : Blk W g t [.int .u8 s, .int .u8 141, .int .u8 0, .int .u8 ((k : Int) + 1), .int .u8 0, .int .u8 0, .int .u8 0, .int .u8 1, .int .u8 0, .int .u8 0, .int .u8 0, .int .u8 ((k : Int) + 1)]) : Row W (some ⟨g, 0, none⟩) (ptb k s) := by
  refine bk_row (t := t) ?_
  have e : (((k + 1 : Nat) : Int)) % 256 = (k : Int) + 1 := by omega
  have e2 : s % 256 = s := by omega
  have e3 : vals (ptb k s) = [.int .u8 s, .int .u8 141, .int .u8 0, .int .u8 ((k : Int) + 1), .int .u8 0, .int .u8 0, .int .u8 0, .int .u8 1, .int .u8 0, .int .u8 0, .int .u8 0, .int .u8 ((k : Int) + 1)] := by
    unfold vals ptb
    simp only [List.map_cons, List.map_nil, b8_val, e, e2]
    rfl
  rw [e3]
  exact h
theorem over_4 (x : BitVec 64) : over (List.replicate 4 0#8) 0 (be 4 x) = be 4 x := by
  simp [over, be4_len]
set_option maxHeartbeats 2000000 in
theorem rports_any (a : Option Addr) (cap : Nat) (l : List Int) (w : World) (V : VArg .i64 w a l.length cap l) :
    Calls Try.prog 27 #[.slice a l.length cap] w fun e w' => ∃ z, e = .returned (.tuple #[z, .int .i64 (ptE l)]) ∧ Own w' w.heap.size z (ptB l) ∧ Below w.heap.size w w' := by
  have HV : Hid _ := V
  clear V
  by_cases h5 : 5 < l.length
  · have e1 := pt_3 h5
    have d1 : (l.length : Int) > 5 := by omega
    clear h5
    go_enter Try.func27, Try.ntmps27
    go_wp2
    go_ret2
    refine ⟨.slice none 0 0, by rw [e1.out.1]; try rfl, ?_, Below.refl _ _⟩
    rw [e1.out.2]; exact Own.nil _ _
  have d1 : decide ((l.length : Int) > 5) = false := decide_eq_false (by omega)
  have v1 : IntKind.i64.wrap (12 * (l.length : Int)) = 12 * (l.length : Int) := by rw [IntKind.wrap_i64]; omega
  have hmk : (Instr.makeSlice 22 (.int .i64 4) (.int .i64 4)).run Try.prog w = _ := seMake 4 (by omega) w
  have M0 := made_ow w 4 (by simp [maxLen])
  have bm : Below w.heap.size w (w.alloc (.cells (vals (List.replicate 4 0#8)).toArray 5)) := (Below.refl _ _).alloc (Nat.le_refl _) _
  generalize w.alloc (.cells (vals (List.replicate 4 0#8)).toArray 5) = w1 at *
  have M : Hid _ := And.intro M0 bm
  clear M0 bm
  obtain ⟨a1, c1, ea1, hle1, -, hr1, hn1, -⟩ := M.out.1.open
  have A : Hid _ := at_yes _ _ _ _ 0 4 (12 * (l.length : Int)) w1 (by simp) hle1 hr1 hn1 (by simp) (by omega) (by omega) (by simp) (fits_4 ⟨by omega, by omega⟩)
  cases ea1
  clear hle1 hr1 hn1
  go_enter Try.func27, Try.ntmps27
  go_wp2_with fail
  refine (Calls.mono A.out) ?_
  rintro e w2 ⟨y2, rfl, o2, b2⟩
  rw [over_4] at o2
  have G : Hid _ := And.intro (o2.lower M.out.2.size) (below_then M.out.2 b2)
  clear o2 b2 A M hmk
  go_wp2_with fail
  go_loopw [4, 5] (fun bv iv wr => ∃ k : Nat, k ≤ l.length ∧ iv = .int .i64 k ∧ Own wr w.heap.size bv (be 4 (BitVec.ofInt 64 (12 * (l.length : Int))) ++ ptbs l k) ∧ Below w.heap.size w wr ∧ (l.take k).all stOk = true) (fun _ iv _ => l.length - (intOf iv).toNat)
  case atStart => exact ⟨0, by omega, rfl, by have := G.out.1; simpa [ptbs] using this, G.out.2, by simp⟩
  case round =>
    clear G
    obtain ⟨k, hk, rfl, ho, hb, hal⟩ := hrel
    by_cases hlt : k < l.length
    · obtain ⟨b, off, rfl, hc⟩ := HV.out.each (by omega)
      have hc1 := cl_later (hc k hlt) hb
      have q1 : (k : Int) < (l.length : Int) := by omega
      have JA : Hid (stOk l[k] = false → l.all stOk = false) := all_no hlt
      have JM : Hid (stOk l[k] = true → (l.take (k + 1)).all stOk = true) := all_more hlt hal
      have JG : Hid _ := getD_at hlt
      have hul := ptbs_len l k
      have JW : Hid _ := And.intro ho hb
      clear hc ho hb hal
      generalize l[k] = X at *
      by_cases h0 : X = 0
      · subst h0
        have B1 := Blk.new' wr 5 [.int .u8 0, .int .u8 141, .int .u8 0, .int .u8 ((k : Int) + 1), .int .u8 0, .int .u8 0, .int .u8 0, .int .u8 1, .int .u8 0, .int .u8 0, .int .u8 0, .int .u8 ((k : Int) + 1)]
        have R1 := pt_row (k := k) (s := 0) (by omega) (by omega) B1
        have b2 : Below wr.heap.size wr (wr.alloc (.cells #[.int .u8 0, .int .u8 141, .int .u8 0, .int .u8 ((k : Int) + 1), .int .u8 0, .int .u8 0, .int .u8 0, .int .u8 1, .int .u8 0, .int .u8 0, .int .u8 0, .int .u8 ((k : Int) + 1)] 5)) := (Below.refl _ _).alloc (Nat.le_refl _) _
        have HF : Hid _ := And.intro (JW.out.1.later b2) (And.intro R1 (below_then JW.out.2 b2))
        clear R1 b2 B1 JW
        go_wp2_with (at_builtin; refine wpList_append_bytes _ rfl _ _ rfl w.heap.size u4 _ rfl HF.out.1 (some ⟨wr.heap.size, 0, none⟩) 12 12 (ptb k 0) rfl rfl HF.out.2.1 (fun h => by cases h) (by omega) (by rw [List.length_append, be4_len, hul]; omega) (Below.size HF.out.2.2) ?_)
        intro v' w' ho' hg'
        have hb' : Below w.heap.size w w' := (HF.out.2.2).grown hg' (Below.size HF.out.2.2) (own_block HF.out.1)
        have F : Hid (Own w' w.heap.size v' (be 4 (BitVec.ofInt 64 (12 * (l.length : Int))) ++ ptbs l (k + 1)) ∧ Below w.heap.size w w' ∧ (l.take (k + 1)).all stOk = true) := ⟨by rw [ptbs, JG.out, ← List.append_assoc]; exact ho', hb', JM.out (by decide)⟩
        clear ho' hg' hb' HF hul hc1
        go_wp2
        go_roundw
        case rel => exact ⟨k + 1, by omega, by go_num, F.out.1, F.out.2.1, F.out.2.2⟩
        case measure => simp [intOf]; omega
      by_cases h1 : X = 2
      · subst h1
        have B1 := Blk.new' wr 5 [.int .u8 2, .int .u8 141, .int .u8 0, .int .u8 ((k : Int) + 1), .int .u8 0, .int .u8 0, .int .u8 0, .int .u8 1, .int .u8 0, .int .u8 0, .int .u8 0, .int .u8 ((k : Int) + 1)]
        have R1 := pt_row (k := k) (s := 2) (by omega) (by omega) B1
        have b2 : Below wr.heap.size wr (wr.alloc (.cells #[.int .u8 2, .int .u8 141, .int .u8 0, .int .u8 ((k : Int) + 1), .int .u8 0, .int .u8 0, .int .u8 0, .int .u8 1, .int .u8 0, .int .u8 0, .int .u8 0, .int .u8 ((k : Int) + 1)] 5)) := (Below.refl _ _).alloc (Nat.le_refl _) _
        have HF : Hid _ := And.intro (JW.out.1.later b2) (And.intro R1 (below_then JW.out.2 b2))
        clear R1 b2 B1 JW
        go_wp2_with (at_builtin; refine wpList_append_bytes _ rfl _ _ rfl w.heap.size u4 _ rfl HF.out.1 (some ⟨wr.heap.size, 0, none⟩) 12 12 (ptb k 2) rfl rfl HF.out.2.1 (fun h => by cases h) (by omega) (by rw [List.length_append, be4_len, hul]; omega) (Below.size HF.out.2.2) ?_)
        intro v' w' ho' hg'
        have hb' : Below w.heap.size w w' := (HF.out.2.2).grown hg' (Below.size HF.out.2.2) (own_block HF.out.1)
        have F : Hid (Own w' w.heap.size v' (be 4 (BitVec.ofInt 64 (12 * (l.length : Int))) ++ ptbs l (k + 1)) ∧ Below w.heap.size w w' ∧ (l.take (k + 1)).all stOk = true) := ⟨by rw [ptbs, JG.out, ← List.append_assoc]; exact ho', hb', JM.out (by decide)⟩
        clear ho' hg' hb' HF hul hc1
        go_wp2
        go_roundw
        case rel => exact ⟨k + 1, by omega, by go_num, F.out.1, F.out.2.1, F.out.2.2⟩
        case measure => simp [intOf]; omega
      by_cases h2 : X = 14
      · subst h2
        have B1 := Blk.new' wr 5 [.int .u8 14, .int .u8 141, .int .u8 0, .int .u8 ((k : Int) + 1), .int .u8 0, .int .u8 0, .int .u8 0, .int .u8 1, .int .u8 0, .int .u8 0, .int .u8 0, .int .u8 ((k : Int) + 1)]
        have R1 := pt_row (k := k) (s := 14) (by omega) (by omega) B1
        have b2 : Below wr.heap.size wr (wr.alloc (.cells #[.int .u8 14, .int .u8 141, .int .u8 0, .int .u8 ((k : Int) + 1), .int .u8 0, .int .u8 0, .int .u8 0, .int .u8 1, .int .u8 0, .int .u8 0, .int .u8 0, .int .u8 ((k : Int) + 1)] 5)) := (Below.refl _ _).alloc (Nat.le_refl _) _
        have HF : Hid _ := And.intro (JW.out.1.later b2) (And.intro R1 (below_then JW.out.2 b2))
        clear R1 b2 B1 JW
        go_wp2_with (at_builtin; refine wpList_append_bytes _ rfl _ _ rfl w.heap.size u4 _ rfl HF.out.1 (some ⟨wr.heap.size, 0, none⟩) 12 12 (ptb k 14) rfl rfl HF.out.2.1 (fun h => by cases h) (by omega) (by rw [List.length_append, be4_len, hul]; omega) (Below.size HF.out.2.2) ?_)
        intro v' w' ho' hg'
        have hb' : Below w.heap.size w w' := (HF.out.2.2).grown hg' (Below.size HF.out.2.2) (own_block HF.out.1)
        have F : Hid (Own w' w.heap.size v' (be 4 (BitVec.ofInt 64 (12 * (l.length : Int))) ++ ptbs l (k + 1)) ∧ Below w.heap.size w w' ∧ (l.take (k + 1)).all stOk = true) := ⟨by rw [ptbs, JG.out, ← List.append_assoc]; exact ho', hb', JM.out (by decide)⟩
        clear ho' hg' hb' HF hul hc1
        go_wp2
        go_roundw
        case rel => exact ⟨k + 1, by omega, by go_num, F.out.1, F.out.2.1, F.out.2.2⟩
        case measure => simp [intOf]; omega
      by_cases h3 : X = 15
      · subst h3
        have B1 := Blk.new' wr 5 [.int .u8 15, .int .u8 141, .int .u8 0, .int .u8 ((k : Int) + 1), .int .u8 0, .int .u8 0, .int .u8 0, .int .u8 1, .int .u8 0, .int .u8 0, .int .u8 0, .int .u8 ((k : Int) + 1)]
        have R1 := pt_row (k := k) (s := 15) (by omega) (by omega) B1
        have b2 : Below wr.heap.size wr (wr.alloc (.cells #[.int .u8 15, .int .u8 141, .int .u8 0, .int .u8 ((k : Int) + 1), .int .u8 0, .int .u8 0, .int .u8 0, .int .u8 1, .int .u8 0, .int .u8 0, .int .u8 0, .int .u8 ((k : Int) + 1)] 5)) := (Below.refl _ _).alloc (Nat.le_refl _) _
        have HF : Hid _ := And.intro (JW.out.1.later b2) (And.intro R1 (below_then JW.out.2 b2))
        clear R1 b2 B1 JW
        go_wp2_with (at_builtin; refine wpList_append_bytes _ rfl _ _ rfl w.heap.size u4 _ rfl HF.out.1 (some ⟨wr.heap.size, 0, none⟩) 12 12 (ptb k 15) rfl rfl HF.out.2.1 (fun h => by cases h) (by omega) (by rw [List.length_append, be4_len, hul]; omega) (Below.size HF.out.2.2) ?_)
        intro v' w' ho' hg'
        have hb' : Below w.heap.size w w' := (HF.out.2.2).grown hg' (Below.size HF.out.2.2) (own_block HF.out.1)
        have F : Hid (Own w' w.heap.size v' (be 4 (BitVec.ofInt 64 (12 * (l.length : Int))) ++ ptbs l (k + 1)) ∧ Below w.heap.size w w' ∧ (l.take (k + 1)).all stOk = true) := ⟨by rw [ptbs, JG.out, ← List.append_assoc]; exact ho', hb', JM.out (by decide)⟩
        clear ho' hg' hb' HF hul hc1
        go_wp2
        go_roundw
        case rel => exact ⟨k + 1, by omega, by go_num, F.out.1, F.out.2.1, F.out.2.2⟩
        case measure => simp [intOf]; omega
      have e1 := pt_1 h5 (JA.out (decide_eq_false (by omega)))
      have d10 : (X == 0) = false := by simpa using h0
      have d11 : (X == 2) = false := by simpa using h1
      have d12 : (X == 14) = false := by simpa using h2
      have d13 : (X == 15) = false := by simpa using h3
      have g0 : (X != 0) = true := by simpa using h0
      have g1 : (X != 2) = true := by simpa using h1
      have g2 : (X != 14) = true := by simpa using h2
      have g3 : (X != 15) = true := by simpa using h3
      go_wp2
      go_ret2
      refine ⟨.slice none 0 0, by rw [e1.out.1]; try rfl, ?_, JW.out.2⟩
      rw [e1.out.2]; exact Own.nil _ _
    · obtain rfl : k = l.length := by omega
      rw [List.take_length] at hal
      have e1 := pt_0 h5 hal
      rw [Int.mul_comm] at ho
      have F : Hid _ := And.intro ho hb
      clear ho hb hal
      go_wp2
      go_ret2
      refine ⟨_, by rw [e1.out.1]; rfl, ?_, F.out.2⟩
      rw [e1.out.2]; exact F.out.1
end Go.Proofs.Ythgiifeifinngaa
