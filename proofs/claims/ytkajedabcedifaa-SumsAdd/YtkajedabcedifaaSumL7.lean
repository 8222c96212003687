/- The walk of the law on lists that are added: the other ways. -/
import Derived.Test.YtkajedabcedifaaSumL6
namespace Go.Proofs.Ytkajedabcedifaa
open Go.RowKit

set_option maxHeartbeats 2000000 in
theorem sumsAdd_c (b0 o0 len0 cap0 : Nat) (l0 : List (BitVec 8)) (b1 o1 len1 cap1 : Nat) (l1 : List (BitVec 8)) (b2 o2 len2 cap2 : Nat) (l2 : List (BitVec 8)) (w : World)
    (A0 : Arg 140737488351232 w (some ⟨b0, o0, none⟩) len0 cap0 l0) (A1 : Arg 140737488351232 w (some ⟨b1, o1, none⟩) len1 cap1 l1) (A2 : Arg 140737488351232 w (some ⟨b2, o2, none⟩) len2 cap2 l2) (g1 : ¬ len1 < len0) (g2 : len2 < len0) (hpos : 0 < len2) :
    Calls Try.prog 7 #[.slice (some ⟨b0, o0, none⟩) len0 cap0, .slice (some ⟨b1, o1, none⟩) len1 cap1, .slice (some ⟨b2, o2, none⟩) len2 cap2] w fun e w' => e = .returned (.bool true) ∧ Below w.heap.size w w' := by
  obtain ⟨hl0, hle0, hbd0, hr0, -⟩ := A0
  obtain ⟨hl1, hle1, hbd1, hr1, -⟩ := A1
  obtain ⟨hl2, hle2, hbd2, hr2, -⟩ := A2
  have t1 : ¬ (len1 : Int) < (len0 : Int) := by omega
  have t2 : (len2 : Int) < (len0 : Int) := by omega
  have c0 : ∀ i, i < l0.length → w.cell? ⟨b0, o0 + i, none⟩ = some (.int .u8 (bt l0 i)) := by
    rcases hr0 with h0 | ⟨b, o, hb, hc⟩
    · subst h0; simp at hl0; omega
    · cases hb; exact hc
  have c1 : ∀ i, i < l1.length → w.cell? ⟨b1, o1 + i, none⟩ = some (.int .u8 (bt l1 i)) := by
    rcases hr1 with h0 | ⟨b, o, hb, hc⟩
    · subst h0; simp at hl1; omega
    · cases hb; exact hc
  have c2 : ∀ i, i < l2.length → w.cell? ⟨b2, o2 + i, none⟩ = some (.int .u8 (bt l2 i)) := by
    rcases hr2 with h0 | ⟨b, o, hb, hc⟩
    · subst h0; simp at hl2; omega
    · cases hb; exact hc
  have C : Hid _ := And.intro c0 (And.intro c1 c2)
  have RR : Hid _ := And.intro hr0 (And.intro hr1 hr2)
  clear c0 c1 c2 hr0 hr1 hr2
  go_enter Try.func7, Try.ntmps7
  go_wp2_with fail
  go_loopw [8, 9] (fun v i wr => ∃ k : Nat, k ≤ len2 ∧ i = .int .i64 k ∧ Own wr w.heap.size v (xr l0 l1 l2 k) ∧ Below w.heap.size w wr) (fun _ i _ => len2 - (intOf i).toNat)
  case atStart => exact ⟨0, by omega, rfl, Own.nil _ _, Below.refl _ _⟩
  case round =>
    obtain ⟨k, hk, rfl, hown, hbl⟩ := hrel
    by_cases hlt : k < len2
    · have hc0 : ∀ W, Below w.heap.size w W → W.cell? ⟨b0, o0 + k, none⟩ = some (.int .u8 (bt l0 k)) := fun W hW => cell_later hW (C.out.1 k (by omega))
      have hc1 : ∀ W, Below w.heap.size w W → W.cell? ⟨b1, o1 + k, none⟩ = some (.int .u8 (bt l1 k)) := fun W hW => cell_later hW (C.out.2.1 k (by omega))
      have hc2 : ∀ W, Below w.heap.size w W → W.cell? ⟨b2, o2 + k, none⟩ = some (.int .u8 (bt l2 k)) := fun W hW => cell_later hW (C.out.2.2 k (by omega))
      have S0 : Below w.heap.size w wr.drew := hbl.drew
      have q0 : (k : Int) < (len0 : Int) := by omega
      have q1 : (k : Int) < (len1 : Int) := by omega
      have q2 : (k : Int) < (len2 : Int) := by omega
      have hxl := xr_length l0 l1 l2 k (by omega) (by omega) (by omega)
      have X : Hid _ := And.intro (xr_step l0 l1 l2 k (by omega) (by omega) (by omega)) (And.intro (xor8_bt l0 l1 l2 k) hxl)
      have HO : Hid _ := hown
      clear hxl hown
      go_wp2_with fail
      go_region_held3 (fun W => Below w.heap.size w W) (first | exact S0 | assumption | exact Below.alloc (by assumption) (Below.size (by assumption)) _ | exact hbR)
        (first | (refine step_append_byte rfl (.tmp 29) (.tmp 44) rfl w.heap.size u8 (xr l0 l1 l2 k) ?s1 ?s2 wr.heap.size (l0.getD k 0#8 ^^^ l1.getD k 0#8 ^^^ l2.getD k 0#8) ?s3 ?s4 ?s5 ?s6 ?s7; (case s1 => simp [Act.eval]); (case s2 => exact Own.later HO.out (by repeat (first | exact Below.refl _ _ | refine Below.drew ?_ | refine Below.alloc ?_ (by simp) _))); (case s3 => simp [Act.eval]); (case s4 => rw [X.out.2.1]; exact Row.newl wr _ _ _ _ rfl); (case s5 => rw [X.out.2.2]; omega); (case s6 => have := hbl.size; simp; omega); rw [← X.out.1]; intro v' w' ho' hg'; have hbR : Below w.heap.size w w' := Below.grown (by repeat (first | exact hbl | refine Below.drew ?_ | refine Below.alloc ?_ (by simpa using hbl.size) _)) hg' (by have := hbl.size; simp; omega) (own_block HO.out)))
      have HO' : Hid _ := ho'
      clear hg' ho' hc0 hc1 hc2 S0
      go_wp2
      go_roundw
      case rel => exact ⟨k + 1, by omega, by go_num, HO'.out, by assumption⟩
      case measure => simp [intOf]; omega
    · have hkn : k = len2 := by omega
      subst hkn
      obtain ⟨av, cv, hv, hle, hm, hrv, -, -⟩ := hown.open
      have hxl := xr_length l0 l1 l2 k (by omega) (by omega) (by omega)
      rw [hxl] at hv
      rw [hv]
      have S4 : Hold [(av, xr l0 l1 l2 k), (some ⟨b0, o0, none⟩, l0.take k), (some ⟨b1, o1, none⟩, l1.take k), (some ⟨b2, o2, none⟩, l2.take k)] wr wr.drew := Hold.start (by
        simp only [List.mem_cons, List.not_mem_nil, or_false, forall_eq_or_imp, forall_eq]
        exact ⟨hrv, (RR.out.1.later hbl).take _, (RR.out.2.1.later hbl).take _, (RR.out.2.2.later hbl).take _⟩)
      generalize hPs : [(av, xr l0 l1 l2 k), (some ⟨b0, o0, none⟩, l0.take k), (some ⟨b1, o1, none⟩, l1.take k), (some ⟨b2, o2, none⟩, l2.take k)] = Ps at *
      have m1 : (av, xr l0 l1 l2 k) ∈ Ps := by rw [← hPs]; simp
      have m2 : (some ⟨b0, o0, none⟩, l0.take k) ∈ Ps := by rw [← hPs]; simp
      have m3 : (some ⟨b1, o1, none⟩, l1.take k) ∈ Ps := by rw [← hPs]; simp
      have m4 : (some ⟨b2, o2, none⟩, l2.take k) ∈ Ps := by rw [← hPs]; simp
      have e0 : (l0.take k).length = k := by simp; omega
      have e1 : (l1.take k).length = k := by simp; omega
      have e2 : (l2.take k).length = k := by simp; omega
      have hmx : k ≤ maxLen := by unfold maxLen; omega
      have hx := xr_sum l0 l1 l2 k (by omega) (by omega) (by omega)
      have hx' : bits .xor .u32 (bits .xor .u32 ((Crc.sum (l0.take k)).toNat : Int) ((Crc.sum (l1.take k)).toNat : Int)) ((Crc.sum (l2.take k)).toNat : Int) = ((Crc.sum (xr l0 l1 l2 k)).toNat : Int) := by rw [xor32, xor32, hx]
      generalize xr l0 l1 l2 k = lv at *
      generalize l0.take k = t0 at *
      generalize l1.take k = t1 at *
      generalize l2.take k = t2 at *
      have q0 : (k : Int) ≤ (cap0 : Int) := by omega
      have q1 : (k : Int) ≤ (cap1 : Int) := by omega
      have q2 : (k : Int) ≤ (cap2 : Int) := by omega
      clear hv hown hrv hPs hx RR C
      go_wp2_with fail
      go_region_held_law (fun W => Hold Ps wr W) (first | exact S4 | assumption | exact Hold.later (by assumption) hbR)
        (first
          | (go_at_call_of 13 (Value.slice av k cv); refine (sum_any av k cv lv _ hxl hmx (Hold.row (by assumption) _ _ m1)).mono ?_; rintro e w' ⟨rfl, hw⟩; obtain rfl := hw.symm)
          | (go_at_call_of 13 (Value.slice (some ⟨b0, o0, none⟩) k cap0); refine (sum_any _ k cap0 t0 _ e0 hmx (Hold.row (by assumption) _ _ m2)).mono ?_; rintro e w' ⟨rfl, hw⟩; obtain rfl := hw.symm)
          | (go_at_call_of 13 (Value.slice (some ⟨b1, o1, none⟩) k cap1); refine (sum_any _ k cap1 t1 _ e1 hmx (Hold.row (by assumption) _ _ m3)).mono ?_; rintro e w' ⟨rfl, hw⟩; obtain rfl := hw.symm)
          | (go_at_call_of 13 (Value.slice (some ⟨b2, o2, none⟩) k cap2); refine (sum_any _ k cap2 t2 _ e2 hmx (Hold.row (by assumption) _ _ m4)).mono ?_; rintro e w' ⟨rfl, hw⟩; obtain rfl := hw.symm)
          | (go_at_call 23; refine (known_any _).mono ?_; rintro e w' ⟨rfl, hbR⟩))
      all_goals
        go_wp2
        go_ret
        exact ⟨rfl, hbl.trans ((Hold.below (Ps := Ps) (w0 := wr) (by assumption)).mono hbl.size)⟩

set_option maxHeartbeats 2000000 in
theorem sumsAdd_d (b0 o0 len0 cap0 : Nat) (l0 : List (BitVec 8)) (b1 o1 len1 cap1 : Nat) (l1 : List (BitVec 8)) (b2 o2 len2 cap2 : Nat) (l2 : List (BitVec 8)) (w : World)
    (A0 : Arg 140737488351232 w (some ⟨b0, o0, none⟩) len0 cap0 l0) (A1 : Arg 140737488351232 w (some ⟨b1, o1, none⟩) len1 cap1 l1) (A2 : Arg 140737488351232 w (some ⟨b2, o2, none⟩) len2 cap2 l2) (g1 : len1 < len0) (g2 : len2 < len1) (hpos : 0 < len2) :
    Calls Try.prog 7 #[.slice (some ⟨b0, o0, none⟩) len0 cap0, .slice (some ⟨b1, o1, none⟩) len1 cap1, .slice (some ⟨b2, o2, none⟩) len2 cap2] w fun e w' => e = .returned (.bool true) ∧ Below w.heap.size w w' := by
  obtain ⟨hl0, hle0, hbd0, hr0, -⟩ := A0
  obtain ⟨hl1, hle1, hbd1, hr1, -⟩ := A1
  obtain ⟨hl2, hle2, hbd2, hr2, -⟩ := A2
  have t1 : (len1 : Int) < (len0 : Int) := by omega
  have t2 : (len2 : Int) < (len1 : Int) := by omega
  have c0 : ∀ i, i < l0.length → w.cell? ⟨b0, o0 + i, none⟩ = some (.int .u8 (bt l0 i)) := by
    rcases hr0 with h0 | ⟨b, o, hb, hc⟩
    · subst h0; simp at hl0; omega
    · cases hb; exact hc
  have c1 : ∀ i, i < l1.length → w.cell? ⟨b1, o1 + i, none⟩ = some (.int .u8 (bt l1 i)) := by
    rcases hr1 with h0 | ⟨b, o, hb, hc⟩
    · subst h0; simp at hl1; omega
    · cases hb; exact hc
  have c2 : ∀ i, i < l2.length → w.cell? ⟨b2, o2 + i, none⟩ = some (.int .u8 (bt l2 i)) := by
    rcases hr2 with h0 | ⟨b, o, hb, hc⟩
    · subst h0; simp at hl2; omega
    · cases hb; exact hc
  have C : Hid _ := And.intro c0 (And.intro c1 c2)
  have RR : Hid _ := And.intro hr0 (And.intro hr1 hr2)
  clear c0 c1 c2 hr0 hr1 hr2
  go_enter Try.func7, Try.ntmps7
  go_wp2_with fail
  go_loopw [8, 9] (fun v i wr => ∃ k : Nat, k ≤ len2 ∧ i = .int .i64 k ∧ Own wr w.heap.size v (xr l0 l1 l2 k) ∧ Below w.heap.size w wr) (fun _ i _ => len2 - (intOf i).toNat)
  case atStart => exact ⟨0, by omega, rfl, Own.nil _ _, Below.refl _ _⟩
  case round =>
    obtain ⟨k, hk, rfl, hown, hbl⟩ := hrel
    by_cases hlt : k < len2
    · have hc0 : ∀ W, Below w.heap.size w W → W.cell? ⟨b0, o0 + k, none⟩ = some (.int .u8 (bt l0 k)) := fun W hW => cell_later hW (C.out.1 k (by omega))
      have hc1 : ∀ W, Below w.heap.size w W → W.cell? ⟨b1, o1 + k, none⟩ = some (.int .u8 (bt l1 k)) := fun W hW => cell_later hW (C.out.2.1 k (by omega))
      have hc2 : ∀ W, Below w.heap.size w W → W.cell? ⟨b2, o2 + k, none⟩ = some (.int .u8 (bt l2 k)) := fun W hW => cell_later hW (C.out.2.2 k (by omega))
      have S0 : Below w.heap.size w wr.drew := hbl.drew
      have q0 : (k : Int) < (len0 : Int) := by omega
      have q1 : (k : Int) < (len1 : Int) := by omega
      have q2 : (k : Int) < (len2 : Int) := by omega
      have hxl := xr_length l0 l1 l2 k (by omega) (by omega) (by omega)
      have X : Hid _ := And.intro (xr_step l0 l1 l2 k (by omega) (by omega) (by omega)) (And.intro (xor8_bt l0 l1 l2 k) hxl)
      have HO : Hid _ := hown
      clear hxl hown
      go_wp2_with fail
      go_region_held3 (fun W => Below w.heap.size w W) (first | exact S0 | assumption | exact Below.alloc (by assumption) (Below.size (by assumption)) _ | exact hbR)
        (first | (refine step_append_byte rfl (.tmp 29) (.tmp 44) rfl w.heap.size u8 (xr l0 l1 l2 k) ?s1 ?s2 wr.heap.size (l0.getD k 0#8 ^^^ l1.getD k 0#8 ^^^ l2.getD k 0#8) ?s3 ?s4 ?s5 ?s6 ?s7; (case s1 => simp [Act.eval]); (case s2 => exact Own.later HO.out (by repeat (first | exact Below.refl _ _ | refine Below.drew ?_ | refine Below.alloc ?_ (by simp) _))); (case s3 => simp [Act.eval]); (case s4 => rw [X.out.2.1]; exact Row.newl wr _ _ _ _ rfl); (case s5 => rw [X.out.2.2]; omega); (case s6 => have := hbl.size; simp; omega); rw [← X.out.1]; intro v' w' ho' hg'; have hbR : Below w.heap.size w w' := Below.grown (by repeat (first | exact hbl | refine Below.drew ?_ | refine Below.alloc ?_ (by simpa using hbl.size) _)) hg' (by have := hbl.size; simp; omega) (own_block HO.out)))
      have HO' : Hid _ := ho'
      clear hg' ho' hc0 hc1 hc2 S0
      go_wp2
      go_roundw
      case rel => exact ⟨k + 1, by omega, by go_num, HO'.out, by assumption⟩
      case measure => simp [intOf]; omega
    · have hkn : k = len2 := by omega
      subst hkn
      obtain ⟨av, cv, hv, hle, hm, hrv, -, -⟩ := hown.open
      have hxl := xr_length l0 l1 l2 k (by omega) (by omega) (by omega)
      rw [hxl] at hv
      rw [hv]
      have S4 : Hold [(av, xr l0 l1 l2 k), (some ⟨b0, o0, none⟩, l0.take k), (some ⟨b1, o1, none⟩, l1.take k), (some ⟨b2, o2, none⟩, l2.take k)] wr wr.drew := Hold.start (by
        simp only [List.mem_cons, List.not_mem_nil, or_false, forall_eq_or_imp, forall_eq]
        exact ⟨hrv, (RR.out.1.later hbl).take _, (RR.out.2.1.later hbl).take _, (RR.out.2.2.later hbl).take _⟩)
      generalize hPs : [(av, xr l0 l1 l2 k), (some ⟨b0, o0, none⟩, l0.take k), (some ⟨b1, o1, none⟩, l1.take k), (some ⟨b2, o2, none⟩, l2.take k)] = Ps at *
      have m1 : (av, xr l0 l1 l2 k) ∈ Ps := by rw [← hPs]; simp
      have m2 : (some ⟨b0, o0, none⟩, l0.take k) ∈ Ps := by rw [← hPs]; simp
      have m3 : (some ⟨b1, o1, none⟩, l1.take k) ∈ Ps := by rw [← hPs]; simp
      have m4 : (some ⟨b2, o2, none⟩, l2.take k) ∈ Ps := by rw [← hPs]; simp
      have e0 : (l0.take k).length = k := by simp; omega
      have e1 : (l1.take k).length = k := by simp; omega
      have e2 : (l2.take k).length = k := by simp; omega
      have hmx : k ≤ maxLen := by unfold maxLen; omega
      have hx := xr_sum l0 l1 l2 k (by omega) (by omega) (by omega)
      have hx' : bits .xor .u32 (bits .xor .u32 ((Crc.sum (l0.take k)).toNat : Int) ((Crc.sum (l1.take k)).toNat : Int)) ((Crc.sum (l2.take k)).toNat : Int) = ((Crc.sum (xr l0 l1 l2 k)).toNat : Int) := by rw [xor32, xor32, hx]
      generalize xr l0 l1 l2 k = lv at *
      generalize l0.take k = t0 at *
      generalize l1.take k = t1 at *
      generalize l2.take k = t2 at *
      have q0 : (k : Int) ≤ (cap0 : Int) := by omega
      have q1 : (k : Int) ≤ (cap1 : Int) := by omega
      have q2 : (k : Int) ≤ (cap2 : Int) := by omega
      clear hv hown hrv hPs hx RR C
      go_wp2_with fail
      go_region_held_law (fun W => Hold Ps wr W) (first | exact S4 | assumption | exact Hold.later (by assumption) hbR)
        (first
          | (go_at_call_of 13 (Value.slice av k cv); refine (sum_any av k cv lv _ hxl hmx (Hold.row (by assumption) _ _ m1)).mono ?_; rintro e w' ⟨rfl, hw⟩; obtain rfl := hw.symm)
          | (go_at_call_of 13 (Value.slice (some ⟨b0, o0, none⟩) k cap0); refine (sum_any _ k cap0 t0 _ e0 hmx (Hold.row (by assumption) _ _ m2)).mono ?_; rintro e w' ⟨rfl, hw⟩; obtain rfl := hw.symm)
          | (go_at_call_of 13 (Value.slice (some ⟨b1, o1, none⟩) k cap1); refine (sum_any _ k cap1 t1 _ e1 hmx (Hold.row (by assumption) _ _ m3)).mono ?_; rintro e w' ⟨rfl, hw⟩; obtain rfl := hw.symm)
          | (go_at_call_of 13 (Value.slice (some ⟨b2, o2, none⟩) k cap2); refine (sum_any _ k cap2 t2 _ e2 hmx (Hold.row (by assumption) _ _ m4)).mono ?_; rintro e w' ⟨rfl, hw⟩; obtain rfl := hw.symm)
          | (go_at_call 23; refine (known_any _).mono ?_; rintro e w' ⟨rfl, hbR⟩))
      all_goals
        go_wp2
        go_ret
        exact ⟨rfl, hbl.trans ((Hold.below (Ps := Ps) (w0 := wr) (by assumption)).mono hbl.size)⟩
end Go.Proofs.Ytkajedabcedifaa
