/- extent, the document's: Bytes. -/
import Derived.Test.YtmkacgdbmojomaaXLd4
import Derived.Test.YtmkacgdbmojomaaXErF
import Derived.Test.YtmkacgdbmojomaaXFieldX3
namespace Go.Proofs.Ytmkacgdbmojomaa
open Go.RowKit
set_option linter.unusedVariables false
set_option linter.unusedSimpArgs false
set_option maxRecDepth 8000

theorem be2_small (i : Nat) (h : i < 256) : be 2 (BitVec.ofInt 64 (i : Int)) = [0#8, BitVec.ofNat 8 i] := by
  have e : BitVec.ofInt 64 (i : Int) = BitVec.ofNat 64 i := BitVec.ofInt_natCast ..
  rw [e]
  unfold be be8
  simp only [Nat.reduceSub, List.drop_succ_cons, List.drop_zero]
  congr 1
  · apply BitVec.eq_of_toNat_eq
    simp [BitVec.toNat_setWidth, BitVec.toNat_ushiftRight, Nat.shiftRight_eq_div_pow]
    omega
  · congr 1
    apply BitVec.eq_of_toNat_eq
    simp [BitVec.toNat_setWidth]
theorem vals2_small (i : Nat) (h : i < 256) : (vals [0#8, BitVec.ofNat 8 i]).toArray = #[.int .u8 ((i : Int) / 256), .int .u8 (i : Int)] := by
  have e : (i : Int) / 256 = 0 := by omega
  rw [e]
  unfold vals
  simp
  omega
theorem hs_step (m : Im) (k : Nat) : hs m (k + 1) = if m.has (k : Int) = true then hs m k ++ [k] else hs m k := by
  unfold hs
  rw [List.range_succ, List.filter_append]
  by_cases h : m.has (k : Int) = true
  · rw [if_pos h, List.filter_cons_of_pos (by simpa using h)]; simp
  · rw [if_neg h, List.filter_cons_of_neg (by simpa using h)]; simp
theorem bytesM_hs (m : Im) : bytesM m = headE m ++ encAll m (hs m m.n) := by unfold bytesM; rw [expand_rn]; rfl
theorem hs_len (m : Im) (k : Nat) : (hs m k).length ≤ k := by unfold hs; exact Nat.le_trans (List.length_filter_le _ _) (by simp)
def ByR (l : List (BitVec 8)) (w : World) (e : Ending) (w' : World) : Prop := ∃ v, e = .returned v ∧ Own w' w.heap.size v l ∧ Below w.heap.size w w'
set_option maxHeartbeats 8000000 in
theorem riBytes_any (r lb : Nat) (V : List Nat) (m : Im) (w : World) (h : (ri r lb V m).Ok w) (hw : m.Wf) : Calls Try.prog 49 #[.pointer (some ⟨r, 0, none⟩)] w fun e w' => ByR (bytesM m) w e w' := by
  have hm := hw.most
  have hu := m.used_le
  have b1 : Below w.heap.size w (w.alloc (.cells #[.slice none 0 0, .int .i64 0] 121)) := (Below.refl _ _).alloc (Nat.le_refl _) _
  have B1 : Blk (w.alloc (.cells #[.slice none 0 0, .int .i64 0] 121)) w.heap.size 121 [.slice none 0 0, .int .i64 0] := Blk.new' w _ _
  have W1 : WrAt (w.alloc (.cells #[.slice none 0 0, .int .i64 0] 121)) w.heap.size w.heap.size 121 (.slice none 0 0) [] 0 := ⟨B1, ⟨[], Own.nil _ _, fun _ => rfl⟩, Nat.le_refl _, b1.size, by decide⟩
  have c1 := ri_head (h.later b1)
  have HP : Hid _ := And.intro h hw
  have H1 : Hid _ := And.intro W1 b1
  clear B1 W1 b1 h hw
  go_enter Try.func49, Try.ntmps49
  go_wp2_with fail
  generalize (w.alloc (.cells #[.slice none 0 0, .int .i64 0] 121)) = w1 at *
  have N := rwNum_any w.heap.size w.heap.size _ [] 0 2 (m.n : Int) w1 H1.out.1 (by simp)
  rw [wr2 _ _ (by omega)] at N
  simp only at N
  have HN : Hid _ := N
  clear N c1
  refine (Calls.mono HN.out) ?_
  rintro e w2 ⟨rfl, v2, W2, -, t2⟩
  clear HN
  have H2 : Hid _ := And.intro W2 (H1.out.2.trans (WrAt.below' H1.out.1 t2))
  clear W2 t2 H1
  go_wp2_with fail
  refine (Calls.mono (riUsed_any r lb V m w2 (HP.out.1.later H2.out.2) HP.out.2)) ?_
  rintro e _ ⟨rfl, rfl⟩
  have N := rwNum_any w.heap.size w.heap.size _ _ 0 2 (m.used : Int) w2 H2.out.1 (by simp [be_length])
  rw [wr2 _ _ (by omega)] at N
  simp only at N
  have HN : Hid _ := N
  clear N
  go_wp2_with fail
  refine (Calls.mono HN.out) ?_
  rintro e w3 ⟨rfl, v3, W3, -, t3⟩
  clear HN
  have H3 : Hid _ := And.intro W3 (H2.out.2.trans (WrAt.below' H2.out.1 t3))
  clear W3 t3 H2
  have HE : Hid _ := rwEnd_any w.heap.size w.heap.size v3 _ 0 w3 H3.out.1 (by simp [be_length])
  go_wp2_with fail
  refine (Calls.mono HE.out) ?_
  rintro e w4 ⟨c, rfl, ho, b4⟩
  clear HE
  have ho4 : Own w4 w.heap.size c (headE m ++ encAll m (hs m 0)) := by
    have e1 : wrEnd ([] ++ be 2 (BitVec.ofInt 64 (m.n : Int)) ++ be 2 (BitVec.ofInt 64 (m.used : Int))) 0 = headE m ++ encAll m (hs m 0) := by unfold wrEnd headE; rw [if_pos rfl]; show _ = _ ++ []; simp
    rw [← e1]; exact own_base ho H3.out.2.size
  have H4 : Hid _ := And.intro ho4 (below_then H3.out.2 b4)
  clear ho ho4 b4 H3
  go_wp2_with fail
  go_loopw [4, 6] (fun bv iv wr => ∃ (k : Nat) (v : Value), v = bv ∧ k ≤ m.n ∧ iv = .int .i64 k ∧ Own wr w.heap.size v (headE m ++ encAll m (hs m k)) ∧ Below w.heap.size w wr) (fun _ iv _ => m.n - (intOf iv).toNat)
  case atStart => exact ⟨0, _, rfl, Nat.zero_le _, rfl, H4.out.1, H4.out.2⟩
  case round =>
    obtain ⟨k, v, rfl, hk, rfl, ho, hb⟩ := hrel
    have c1' := ri_head (HP.out.1.later hb)
    by_cases hlt : k < m.n
    · have q1 : (k : Int) < (m.n : Int) := by omega
      have HX : Hid _ := And.intro ho hb
      clear ho hb
      go_wp2_with fail
      refine (Calls.mono (riHas_any r lb V m (k : Int) wr (HP.out.1.later HX.out.2) HP.out.2 (by unfold I64; omega))) ?_
      rintro e _ ⟨rfl, rfl⟩
      cases hh : m.has (k : Int)
      · have HS : Hid _ := (show hs m (k + 1) = hs m k by rw [hs_step, hh]; rfl)
        clear hh
        go_wp2
        go_roundw
        case rel => exact ⟨k + 1, v, rfl, by omega, by go_num, by rw [HS.out]; exact HX.out.1, HX.out.2⟩
        case measure => simp [intOf]; omega
      · have HS : Hid _ := (show hs m (k + 1) = hs m k ++ [k] by rw [hs_step, hh]; rfl)
        obtain ⟨x, cap, c2, hle, hnl, hrow⟩ := ri_cell HP.out.1 hm (i := k) (by omega)
        obtain ⟨hb1, hb2⟩ := (has_by m k HP.out.2).2 hh
        clear hh
        have z2 := cell_later HX.out.2 c2
        have c2' := c2
        rw [hb1] at z2 hle c2'
        have hkI : (k : Int) < 256 := by omega
        have bA : Below wr.heap.size wr (wr.alloc (.cells #[.int .u8 ((k : Int) / 256), .int .u8 (k : Int)] 5)) := (Below.refl _ _).alloc (Nat.le_refl _) _
        have rA : Row (wr.alloc (.cells #[.int .u8 ((k : Int) / 256), .int .u8 (k : Int)] 5)) (some ⟨wr.heap.size, 0, none⟩) [0#8, BitVec.ofNat 8 k] := by have := row_new wr [0#8, BitVec.ofNat 8 k] 5; rw [vals2_small k (by omega)] at this; exact this
        have hlen : (headE m ++ encAll m (hs m k)).length ≤ 20000 := by rw [List.length_append, encAll_len HP.out.2]; have := hs_len m k; unfold headE; rw [List.length_append, be_length _ _ (by omega), be_length _ _ (by omega)]; omega
        have HA : Hid _ := And.intro rA (And.intro (HX.out.1.later bA) (And.intro (below_then HX.out.2 bA) (And.intro hlen (And.intro hle (And.intro hnl (And.intro (hrow.later (below_then HX.out.2 bA)) (And.intro hb1 (And.intro hb2 c2'))))))))
        have z3 := cell_later bA z2
        have z4 := cell_later bA c1'
        clear rA bA hlen hle hnl hb1 hb2 c2 c2'
        go_wp2_with (at_builtin; refine wpList_append_bytes _ rfl _ _ rfl w.heap.size v (headE m ++ encAll m (hs m k)) rfl HA.out.2.1 (some ⟨wr.heap.size, 0, none⟩) 2 2 [0#8, BitVec.ofNat 8 k] rfl rfl HA.out.1 (fun h => by cases h) (Nat.le_refl _) (by have := HA.out.2.2.2.1; omega) HA.out.2.2.1.size ?_)
        intro v5 w5 ho5 hg5
        have hb5 : Below w.heap.size w w5 := HA.out.2.2.1.grown hg5 HA.out.2.2.1.size (fun q hq => (World.ownsRow.lt HX.out.1 q hq).1)
        have z5 := ri_head (HP.out.1.later hb5)
        have z6 := cell_later hb5 HA.out.2.2.2.2.2.2.2.2.2
        obtain ⟨va, vc, rfl, -⟩ := ho5.open
        have HB : Hid _ := And.intro ho5 (And.intro hb5 (hrow.later hb5))
        clear z2 z3 z4 hg5 ho5 hb5 hrow c1'
        go_wp2_with (at_builtin; refine wpList_append_bytes _ rfl _ _ rfl w.heap.size _ _ rfl HB.out.1 x 64 cap (m.by k) rfl HA.out.2.2.2.2.2.2.2.1 HB.out.2.2 HA.out.2.2.2.2.2.1 HA.out.2.2.2.2.1 (by simp only [List.length_append, List.length_cons, List.length_nil]; have := HA.out.2.2.2.1; rw [List.length_append] at this; omega) HB.out.2.1.size ?_)
        intro v7 w7 ho7 hg7
        have F : Hid _ := And.intro (show Own w7 w.heap.size v7 (headE m ++ encAll m (hs m (k + 1))) from (by
          have e : encAll m [k] = [0#8, BitVec.ofNat 8 k] ++ m.by k := by unfold encAll; rw [List.flatMap_cons, List.flatMap_nil, List.append_nil, be2_small k (by omega), HA.out.2.2.2.2.2.2.2.2.1]
          rw [HS.out, encAll_append, e]; simpa [List.append_assoc] using ho7)) (HB.out.2.1.grown hg7 HB.out.2.1.size (fun q hq => (World.ownsRow.lt HB.out.1 q (by simpa [Value.ownBlock] using hq)).1))
        obtain ⟨vb, vd, rfl, -⟩ := ho7.open
        clear ho7 hg7 HB HA
        go_wp2
        go_roundw
        case rel => exact ⟨k + 1, _, rfl, by omega, by go_num, F.out.1, F.out.2⟩
        case measure => simp [intOf]; omega
    · obtain rfl : k = m.n := by omega
      have q1 : ¬ ((m.n : Int) < (m.n : Int)) := by omega
      have F : Hid _ := And.intro ho hb
      clear ho hb hk hlt
      go_wp2
      go_ret
      exact ⟨v, rfl, by rw [bytesM_hs]; exact F.out.1, F.out.2⟩
end Go.Proofs.Ytmkacgdbmojomaa

