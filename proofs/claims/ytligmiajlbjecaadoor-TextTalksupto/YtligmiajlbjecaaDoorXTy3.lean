/- text: strings.Cut at a comma; firstOf. -/
import Derived.Test.YtligmiajlbjecaaDoorXTy0
import Derived.Test.YtligmiajlbjecaaDoorXTx22
namespace Go.Proofs.YtligmiajlbjecaaDoor
open Go.RowKit
set_option linter.unusedVariables false
set_option linter.unusedSimpArgs false
set_option maxRecDepth 8000

theorem slice_strh2 (s : ByteArray) (k : Nat) (hk : k ≤ s.size) (w : World) : (Instr.sliceAt 9 (.string s) none (some (.int .i64 (k : Int))) none).run Tryd.prog w = .ok (.string (mkS (s.data.toList.take k))) w := by
  have := slice_strh s.data.toList k (by simpa using hk) w
  rw [mkS_back] at this; exact this
theorem slice_strl2 (s : ByteArray) (k : Nat) (hk : k ≤ s.size) (w : World) : (Instr.sliceAt 9 (.string s) (some (.int .i64 (k : Int))) none none).run Tryd.prog w = .ok (.string (mkS (s.data.toList.drop k))) w := by
  have := slice_strl s.data.toList k (by simpa using hk) w
  rw [mkS_back] at this; exact this
set_option maxHeartbeats 4000000 in
theorem slCut_any (s : ByteArray) (w : World) (hs : s.size ≤ 9223372036854775807) : Calls Tryd.prog 65 #[.string s, .string ⟨#[44]⟩] w fun e w' => e = .returned (.tuple #[.string (cutS s).1, .string (cutS s).2.1, .bool (cutS s).2.2]) ∧ Below w.heap.size w w' := by
  have HI0 := Tryd.stringslite_Index_one s 44 w
  have hge := Lib.indexByte_ge s.data.toList 44
  have hsz : s.data.toList.length = s.size := by simp
  obtain ⟨i, hi⟩ : ∃ i, i = Lib.indexByte s.data.toList 44 := ⟨_, rfl⟩
  rw [← hi] at HI0 hge
  have HI : Hid _ := HI0
  clear HI0
  by_cases hm : i = -1
  · subst hm
    have hc := cutC_none (fun k => Lib.indexByte_none hi.symm k)
    have F : Hid (cutS s = (s, ⟨#[]⟩, false)) := (by unfold cutS; rw [hc] : cutS s = (s, ⟨#[]⟩, false))
    rw [F.out]
    clear F hc hi hge hsz
    go_enter Tryd.func65, Tryd.ntmps65
    go_wp2_with fail
    refine (Calls.mono HI.out) ?_
    rintro e _ ⟨rfl, rfl⟩
    clear HI
    go_wp2
    refine bodyPost_ret (v := .tuple #[.string s, .string ⟨#[]⟩, .bool false]) (by first | rfl | simp [results, Tryd.results65, go_sem]) rfl ?_
    exact ⟨rfl, Below.refl _ _⟩
  · obtain ⟨o, ho⟩ : ∃ o : Nat, i = (o : Int) := ⟨i.toNat, by omega⟩
    subst ho
    obtain ⟨h1, h2⟩ := Lib.indexByte_some hi.symm
    have hol : o < s.data.toList.length := by
      rcases Nat.lt_or_ge o s.data.toList.length with h | h
      · exact h
      · rw [List.getElem?_eq_none h] at h1; cases h1
    have F : Hid (cutS s = (mkS (s.data.toList.take o), mkS (s.data.toList.drop (o + 1)), true)) := (by unfold cutS; rw [cutC_some h1 h2] : cutS s = _)
    rw [F.out]
    have s1 := fun W => slice_strh2 s o (by omega) W
    have s2 := fun W => slice_strl2 s (o + 1) (by omega) W
    generalize mkS (s.data.toList.take o) = xa at *
    generalize mkS (s.data.toList.drop (o + 1)) = xb at *
    have S12 : Hid ((∀ W, _) ∧ (∀ W, _)) := And.intro s1 s2
    have w1 : IntKind.i64.wrap ((o : Int) + 1) = (o : Int) + 1 := by rw [IntKind.wrap_i64]; omega
    have q0 : (0 : Int) ≤ (o : Int) := by omega
    clear F s1 s2 h1 h2 hi hge hsz hm hol
    go_enter Tryd.func65, Tryd.ntmps65
    go_wp2_with fail
    refine (Calls.mono HI.out) ?_
    rintro e w1 ⟨rfl, rfl⟩
    clear HI
    go_wp2_with fail
    refine wp_region_held_drew (S := fun W => Below w1.heap.size w1 W) (by kernel_rfl) ((Below.refl _ _).drew) (fun hS => ?_)
    refine any_take (i := 0) (v := ?_) rfl (by kernel_rfl) (by kernel_rfl) (by kernel_rfl) (by exact fun _ _ _ h => h) (by rfl) ?_ hS ?_
    rotate_left
    · ((intro w hSw; skip; go_simp) <;> with_reducible rfl)
    (try simp only [Act.put, List.setIfInBounds_toArray, List.set_cons_zero, List.set_cons_succ])
    refine any_take (i := 1) (v := ?_) rfl (by kernel_rfl) (by kernel_rfl) (by kernel_rfl) (by exact fun _ _ _ h => h) (by rfl) ?_ hS ?_
    rotate_left
    · ((intro w hSw; skip; go_simp) <;> with_reducible rfl)
    (try simp only [Act.put, List.setIfInBounds_toArray, List.set_cons_zero, List.set_cons_succ])
    refine any_take (i := 2) (v := .string xa) rfl (by kernel_rfl) (by kernel_rfl) (by kernel_rfl) (by exact fun _ _ _ h => h) (by rfl) ?_ hS ?_
    · intro W hSW; exact exec_slice18 rfl rfl (S12.out.1 W)
    (try simp only [Act.put, List.setIfInBounds_toArray, List.set_cons_zero, List.set_cons_succ])
    refine any_take (i := 3) (v := ?_) rfl (by kernel_rfl) (by kernel_rfl) (by kernel_rfl) (by exact fun _ _ _ h => h) (by rfl) ?_ hS ?_
    rotate_left
    · ((intro w hSw; skip; go_simp) <;> with_reducible rfl)
    (try simp only [Act.put, List.setIfInBounds_toArray, List.set_cons_zero, List.set_cons_succ])
    refine any_take (i := 4) (v := ?_) rfl (by kernel_rfl) (by kernel_rfl) (by kernel_rfl) (by exact fun _ _ _ h => h) (by rfl) ?_ hS ?_
    rotate_left
    · ((intro w hSw; skip; go_simp) <;> with_reducible rfl)
    (try simp only [Act.put, List.setIfInBounds_toArray, List.set_cons_zero, List.set_cons_succ])
    refine any_take (i := 5) (v := ?_) rfl (by kernel_rfl) (by kernel_rfl) (by kernel_rfl) (by exact fun _ _ _ h => h) (by rfl) ?_ hS ?_
    rotate_left
    · ((intro w hSw; skip; go_simp) <;> with_reducible rfl)
    (try simp only [Act.put, List.setIfInBounds_toArray, List.set_cons_zero, List.set_cons_succ])
    refine any_take (i := 6) (v := ?_) rfl (by kernel_rfl) (by kernel_rfl) (by kernel_rfl) (by exact fun _ _ _ h => h) (by rfl) ?_ hS ?_
    rotate_left
    · ((intro w hSw; skip; go_simp) <;> with_reducible rfl)
    (try simp only [Act.put, List.setIfInBounds_toArray, List.set_cons_zero, List.set_cons_succ])
    refine any_take (i := 7) (v := ?_) rfl (by kernel_rfl) (by kernel_rfl) (by kernel_rfl) (by exact fun _ _ _ h => h) (by rfl) ?_ hS ?_
    rotate_left
    · ((intro w hSw; skip; go_simp) <;> with_reducible rfl)
    (try simp only [Act.put, List.setIfInBounds_toArray, List.set_cons_zero, List.set_cons_succ])
    refine any_take (i := 8) (v := .string xb) rfl (by kernel_rfl) (by kernel_rfl) (by kernel_rfl) (by exact fun _ _ _ h => h) (by rfl) ?_ hS ?_
    · intro W hSW; exact exec_slice18 rfl rfl (S12.out.2 W)
    (try simp only [Act.put, List.setIfInBounds_toArray, List.set_cons_zero, List.set_cons_succ])
    refine any_take (i := 9) (v := ?_) rfl (by kernel_rfl) (by kernel_rfl) (by kernel_rfl) (by exact fun _ _ _ h => h) (by rfl) ?_ hS ?_
    rotate_left
    · ((intro w hSw; skip; go_simp) <;> with_reducible rfl)
    (try simp only [Act.put, List.setIfInBounds_toArray, List.set_cons_zero, List.set_cons_succ])
    refine any_take (i := 10) (v := ?_) rfl (by kernel_rfl) (by kernel_rfl) (by kernel_rfl) (by exact fun _ _ _ h => h) (by rfl) ?_ hS ?_
    rotate_left
    · ((intro w hSw; skip; go_simp) <;> with_reducible rfl)
    (try simp only [Act.put, List.setIfInBounds_toArray, List.set_cons_zero, List.set_cons_succ])
    refine any_take (i := 11) (v := ?_) rfl (by kernel_rfl) (by kernel_rfl) (by kernel_rfl) (by exact fun _ _ _ h => h) (by rfl) ?_ hS ?_
    rotate_left
    · ((intro w hSw; skip; go_simp) <;> with_reducible rfl)
    (try simp only [Act.put, List.setIfInBounds_toArray, List.set_cons_zero, List.set_cons_succ])
    have F : Hid _ := hS
    refine wpAnyH_done (by kernel_rfl) ?_ _
    clear hS
    go_wp2
    refine bodyPost_ret (v := .tuple #[.string xa, .string xb, .bool true]) (by first | rfl | simp [results, Tryd.results65, go_sem]) rfl ?_
    exact ⟨rfl, F.out⟩
set_option maxHeartbeats 4000000 in
theorem tCut_any (s : ByteArray) (w : World) (hs : s.size ≤ 9223372036854775807) : Calls Tryd.prog 57 #[.string s, .string ⟨#[44]⟩] w fun e w' => e = .returned (.tuple #[.string (cutS s).1, .string (cutS s).2.1, .bool (cutS s).2.2]) ∧ Below w.heap.size w w' := by
  have HI : Hid _ := slCut_any s w hs
  clear hs
  generalize cutS s = C at *
  obtain ⟨xa, xb, c⟩ := C
  simp only at HI ⊢
  go_enter Tryd.func57, Tryd.ntmps57
  go_wp2_with fail
  refine (Calls.mono HI.out) ?_
  rintro e w1 ⟨rfl, b1⟩
  have F : Hid _ := b1
  clear HI b1
  go_wp2
  refine bodyPost_ret (v := .tuple #[.string xa, .string xb, .bool c]) (by first | rfl | simp [results, Tryd.results57, go_sem]) rfl ?_
  exact ⟨rfl, F.out⟩
theorem cutS_size (s : ByteArray) : (cutS s).2.1.size ≤ s.size := by
  unfold cutS
  split
  · exact Nat.zero_le _
  · rename_i x y hc
    have := cutC_short hc
    have e : s.data.toList.length = s.size := by simp
    have e2 : (mkS y).size = y.length := by simp [mkS, ByteArray.size]
    simp only [e2]
    omega
set_option maxHeartbeats 8000000 in
theorem tFirst_any (s : ByteArray) (ks : List ByteArray) (b c : Nat) (w : World) (hs : s.size ≤ 9223372036854775807) (hk : ks.length ≤ 100) (hc : ∀ j, j < ks.length → w.cell? ⟨b, 0 + j, none⟩ = some (.string (ks.getD j ByteArray.empty))) : Calls Tryd.prog 46 #[.string s, .slice (some ⟨b, 0, none⟩) ks.length c] w fun e w' => e = .returned (.string (firstM ks s)) ∧ Below w.heap.size w w' := by
  have HK : Hid _ := hc
  obtain ⟨nk, hnk⟩ : ∃ nk, nk = ks.length := ⟨_, rfl⟩
  rw [← hnk]
  have HNK : Hid _ := And.intro hnk hk
  clear hc hnk hk
  go_enter Tryd.func46, Tryd.ntmps46
  go_wp2_with fail
  go_loopw [0, 5] (fun uv mv wr => ∃ (u : ByteArray) (m : Bool), uv = .string u ∧ mv = .bool m ∧ Below w.heap.size w wr ∧ u.size ≤ 9223372036854775807 ∧ (m = true → firstM ks s = firstM ks u) ∧ (m = false → firstM ks s = rejS)) (fun uv mv _ => match uv, mv with | .string u, .bool true => u.size + 1 | _, _ => 0)
  case atStart => exact ⟨s, true, rfl, rfl, Below.refl _ _, hs, fun _ => rfl, fun h => by cases h⟩
  case round =>
    obtain ⟨u, m, rfl, rfl, hB, hu, hy, hn⟩ := hrel
    cases m
    · have F : Hid _ := And.intro (hn rfl) hB
      clear hy hn hB
      go_wp2
      go_ret
      exact ⟨by first | (rw [F.out.1]; done) | (rw [F.out.1]; rfl) | rw [F.out.1], F.out.2⟩
    · have HC : Hid _ := tCut_any u wr hu
      have hY := hy rfl
      have hcs := cutS_size u
      have hle := fun h => cutS_less (s := u) h
      have f1 := fun h => firstM_yes (ks := ks) (s := u) h
      have f2 := fun h h2 => firstM_next (ks := ks) (s := u) h h2
      have f3 := fun h h2 => firstM_end (ks := ks) (s := u) h h2
      generalize cutS u = C at *
      obtain ⟨xa, xb, cb⟩ := C
      simp only at HC hcs hle f1 f2 f3
      have HF : Hid _ := And.intro hY (And.intro f1 (And.intro f2 (And.intro f3 (And.intro hle (And.intro hcs (And.intro hB hu))))))
      clear hy hn hY hcs hle f1 f2 f3 hB hu
      go_wp2_with fail
      refine (Calls.mono HC.out) ?_
      rintro e w1 ⟨rfl, b1⟩
      clear HC
      have HB : Hid _ := below_then HF.out.2.2.2.2.2.2.1 b1
      clear b1
      have HS0 := Tryd.slices_Contains_string b 0 ks.length c ks xa w1 (Nat.le_refl _) (by have := HNK.out.2; omega) (fun j hj => rcell HB.out (HK.out j hj))
      rw [List.take_length, ← HNK.out.1] at HS0
      obtain ⟨q, hq⟩ : ∃ q, q = Lib.containsS ks xa := ⟨_, rfl⟩
      rw [← hq] at HS0
      have HS : Hid _ := HS0
      have HQ : Hid _ := hq
      clear HS0 hq
      go_wp2_with fail
      refine (Calls.mono HS.out) ?_
      rintro e _ ⟨rfl, rfl⟩
      clear HS
      cases q
      · have hsz : xb.size ≤ 9223372036854775807 := by have := HF.out.2.2.2.2.2.1; have := HF.out.2.2.2.2.2.2.2; omega
        cases cb
        · have F : Hid _ := And.intro hsz (And.intro (HF.out.1.trans (HF.out.2.2.2.1 HQ.out.symm rfl)) HB.out)
          clear HF HQ HB hsz
          go_wp2
          go_roundw
          case rel => exact ⟨_, _, rfl, rfl, F.out.2.2, F.out.1, fun h => absurd h (by simp), fun _ => F.out.2.1⟩
          case measure => simp
        · have F : Hid _ := And.intro hsz (And.intro (HF.out.1.trans (HF.out.2.2.1 HQ.out.symm rfl)) (And.intro HB.out (HF.out.2.2.2.2.1 rfl)))
          clear HF HQ HB hsz
          go_wp2
          go_roundw
          case rel => exact ⟨_, _, rfl, rfl, F.out.2.2.1, F.out.1, fun _ => F.out.2.1, fun h => absurd h (by simp)⟩
          case measure => have := F.out.2.2.2; simp; omega
      · have F : Hid _ := And.intro (HF.out.1.trans (HF.out.2.1 HQ.out.symm)) HB.out
        clear HF HQ HB
        go_wp2
        go_ret
        exact ⟨by first | (rw [F.out.1]; done) | (rw [F.out.1]; rfl), F.out.2⟩
end Go.Proofs.YtligmiajlbjecaaDoor

