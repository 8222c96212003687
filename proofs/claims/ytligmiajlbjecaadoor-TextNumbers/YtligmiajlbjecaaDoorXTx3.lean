/- text, the document's: Number. -/
import Derived.Test.YtligmiajlbjecaaDoorXTx2
namespace Go.Proofs.YtligmiajlbjecaaDoor
open Go.RowKit
set_option linter.unusedVariables false
set_option linter.unusedSimpArgs false
set_option maxRecDepth 8000

theorem head_of {s : ByteArray} (h : 0 < s.size) : s.data.toList.head? = some (s[0]'h) := by
  have h2 : 0 < s.data.toList.length := by simpa using h
  rw [List.head?_eq_getElem?, List.getElem?_eq_getElem h2]
  rfl
theorem len_nil {s : ByteArray} (h : s.size = 0) : s.data.toList = [] := List.length_eq_zero_iff.1 (by simpa using h)
theorem ix_str (s : ByteArray) (pos : Nat) (h : pos < s.size) (w : World) : (Instr.index 9 (.string s) (.int .i64 (pos : Int))).run Tryd.prog w = .ok (.int .u8 ((s[pos]'h).toNat : Int)) w := by
  have hu : Tryd.prog.underlying 9 = some .string := Tryd.underlying9
  simp [Instr.index, run_underlying hu, h, go_sem]
set_option maxHeartbeats 4000000 in
theorem rNumber_any (s : ByteArray) (w : World) (hbig : s.size ≤ 9223372036854775807) : Calls Tryd.prog 21 #[.string s] w fun e w' => e = .returned (.tuple #[.int .i64 (nuR s.data.toList).1, .int .i64 (nuR s.data.toList).2]) ∧ w = w' := by
  have hsz : s.data.toList.length = s.size := by simp
  go_enter Tryd.func21, Tryd.ntmps21
  go_wp2_with fail
  go_loopw [4, 5] (fun v u wr => ∃ pos : Nat, v = .int .i64 ((vl (s.data.toList.take pos) : Nat) : Int) ∧ u = .int .i64 (pos : Int) ∧ pos ≤ s.size ∧ pos ≤ 9 ∧ wr = w ∧ (s.data.toList.take pos).all isDg = true ∧ vl (s.data.toList.take pos) < 10 ^ pos) (fun _ u _ => 9 - (intOf u).toNat)
  case atStart => exact ⟨0, rfl, rfl, by omega, by omega, rfl, rfl, by rw [List.take_zero]; decide⟩
  case round =>
    obtain ⟨pos, rfl, rfl, hp, hp9, rfl, hd, hv⟩ := hrel
    by_cases hlt : pos < s.size ∧ pos < 9
    · obtain ⟨hlt, h9⟩ := hlt
      have hc := take_snoc hlt
      have hgl := get_list hlt (by omega : pos < s.data.toList.length)
      obtain ⟨c, hcc⟩ : ∃ c, s[pos]'hlt = c := ⟨_, rfl⟩
      rw [hcc] at hc hgl
      have hix : ∀ W, (Instr.index 9 (.string s) (.int .i64 (pos : Int))).run Tryd.prog W = .ok (.int .u8 (c.toNat : Int)) W := fun W => by rw [← hcc]; exact ix_str s pos hlt W
      have t1 : (pos : Int) < (s.size : Int) := by omega
      have t2 : (pos : Int) < 9 := by omega
      by_cases hdg : isDg c = true
      · have hcb : 48 ≤ c.toNat ∧ c.toNat ≤ 57 := by simpa [isDg] using hdg
        have hv1 : vl (s.data.toList.take (pos + 1)) = 10 * vl (s.data.toList.take pos) + (c.toNat - 48) := by rw [hc, vl_snoc]
        have hd1 : (s.data.toList.take (pos + 1)).all isDg = true := by rw [hc, List.all_append, hd]; simp [hdg]
        have hten : (10 : Nat) ^ pos ≤ 10 ^ 8 := Nat.pow_le_pow_right (by omega) (by omega)
        have hten' : (10 : Nat) ^ 8 = 100000000 := rfl
        have hps : (10 : Nat) ^ (pos + 1) = 10 ^ pos * 10 := Nat.pow_succ ..
        have hv2 : vl (s.data.toList.take (pos + 1)) < 10 ^ (pos + 1) := by rw [hps, hv1]; omega
        obtain ⟨N, hN⟩ : ∃ N : Int, N = ((vl (s.data.toList.take pos) : Nat) : Int) := ⟨_, rfl⟩
        obtain ⟨C, hC⟩ : ∃ C : Int, C = (c.toNat : Int) := ⟨_, rfl⟩
        have e1 : ((vl (s.data.toList.take (pos + 1)) : Nat) : Int) = 10 * N + (C - 48) := by rw [hv1]; omega
        have q1 : ¬ (C < 48) := by omega
        have q2 : ¬ ((57 : Int) < C) := by omega
        have w1 : IntKind.i64.wrap (10 * N) = 10 * N := by rw [IntKind.wrap_i64]; omega
        have w2 : IntKind.u8.wrap (C - 48) = C - 48 := by rw [IntKind.wrap_u8]; omega
        have w3 : IntKind.i64.wrap (C - 48) = C - 48 := by rw [IntKind.wrap_i64]; omega
        have w4 : IntKind.i64.wrap (10 * N + (C - 48)) = 10 * N + (C - 48) := by rw [IntKind.wrap_i64]; omega
        have w5 : IntKind.i64.wrap ((pos : Int) + 1) = (pos : Int) + 1 := by rw [IntKind.wrap_i64]; omega
        have F : Hid _ := And.intro e1 (And.intro hd1 hv2)
        rw [← hN]
        rw [← hC] at hix
        clear hc hgl hcc hd hv hdg hcb hv1 hd1 hv2 e1 hN hC hten hten' hps
        go_wp2
        go_roundw
        case rel => exact ⟨pos + 1, by rw [F.out.1], by first | rfl | (congr 1; omega), by omega, by omega, by trivial, F.out.2.1, F.out.2.2⟩
        case measure => simp [intOf]; omega
      · have F : Hid _ := nuR_no (l := s.data.toList) (bad_digit (l := s.data.toList) (k := pos) (by omega) (by rw [hgl]; simpa using hdg))
        have q : (c.toNat : Int) < 48 ∨ (57 : Int) < (c.toNat : Int) := by simp [isDg] at hdg; omega
        clear hc hgl hcc hd hv hdg hp hp9
        generalize ((vl (s.data.toList.take pos) : Nat) : Int) = N at *
        generalize (c.toNat : Int) = C at *
        rcases q with q | q
        · have q2 : ¬ (57 : Int) < C := by omega
          go_wp2
          all_goals (refine bodyPost_ret (v := .tuple #[.int .i64 0, .int .i64 11]) (by first | rfl | simp [results, Tryd.results21, go_sem]) rfl ?_; exact ⟨by first | rw [F.out] | rfl, rfl⟩)
        · have q2 : ¬ (C < 48) := by omega
          go_wp2
          all_goals (refine bodyPost_ret (v := .tuple #[.int .i64 0, .int .i64 11]) (by first | rfl | simp [results, Tryd.results21, go_sem]) rfl ?_; exact ⟨by first | rw [F.out] | rfl, rfl⟩)
    · by_cases h0 : s.size = 0
      · have F : Hid _ := nuR_no (l := s.data.toList) (show numOk s.data.toList = false by unfold numOk; rw [len_nil h0]; rfl)
        have hse : s = ByteArray.empty := by cases s with | mk d => (simp [ByteArray.size] at h0; subst h0; rfl)
        have tp : pos = 0 := by omega
        subst tp
        clear hsz hbig h0
        subst hse
        clear hd hv hlt hp hp9
        generalize ((vl (List.take 0 _) : Nat) : Int) = N at *
        rw [show ((0 : Nat) : Int) = 0 from rfl]
        go_wp2
        all_goals (refine bodyPost_ret (v := .tuple #[.int .i64 0, .int .i64 11]) (by first | rfl | simp [results, Tryd.results21, go_sem]) rfl ?_; exact ⟨by first | rw [F.out] | rfl, rfl⟩)
      · by_cases h8 : 8 < s.size
        · have F : Hid _ := nuR_no (l := s.data.toList) (long_bad (by omega))
          have hse : ¬ s = ByteArray.empty := fun e => by rw [e] at h0; exact h0 rfl
          have t1 : (8 : Int) < (s.size : Int) := by omega
          have t2 : ¬ (s.size : Int) = 0 := by omega
          have t3 : ¬ (pos : Int) < 9 := by omega
          have t4 : (pos : Int) < (s.size : Int) ∨ ¬ (pos : Int) < (s.size : Int) := by omega
          clear hd hv hlt hp hp9 h8 h0
          generalize ((vl (s.data.toList.take pos) : Nat) : Int) = N at *
          rcases t4 with t4 | t4
          · go_wp2
            all_goals (refine bodyPost_ret (v := .tuple #[.int .i64 0, .int .i64 11]) (by first | rfl | simp [results, Tryd.results21, go_sem]) rfl ?_; exact ⟨by first | rw [F.out] | rfl, rfl⟩)
          · go_wp2
            all_goals (refine bodyPost_ret (v := .tuple #[.int .i64 0, .int .i64 11]) (by first | rfl | simp [results, Tryd.results21, go_sem]) rfl ?_; exact ⟨by first | rw [F.out] | rfl, rfl⟩)
        · have hps : pos = s.size := by omega
          have hpos : 0 < s.size := by omega
          have htk : s.data.toList.take pos = s.data.toList := List.take_of_length_le (by omega)
          rw [htk] at hd hv ⊢
          have hhd := head_of hpos
          obtain ⟨c, hcc⟩ : ∃ c, s[0]'hpos = c := ⟨_, rfl⟩
          rw [hcc] at hhd
          have hix : ∀ W, (Instr.index 9 (.string s) (.int .i64 0)).run Tryd.prog W = .ok (.int .u8 (c.toNat : Int)) W := fun W => by rw [← hcc]; exact ix_str s 0 hpos W
          have hse : ¬ s = ByteArray.empty := fun e => by rw [e] at h0; exact h0 rfl
          have t1 : ¬ (8 : Int) < (s.size : Int) := by omega
          have t2 : ¬ (s.size : Int) = 0 := by omega
          have t3 : ¬ (pos : Int) < (s.size : Int) := by omega
          have t5 : (0 : Int) < (s.size : Int) := by omega
          have hne : s.data.toList ≠ [] := fun e => by rw [e] at hhd; cases hhd
          by_cases hz : c = 48 ∧ 1 < s.size
          · have F : Hid _ := nuR_no (l := s.data.toList) (by cases hn : numOk s.data.toList with | false => rfl | true => exact absurd (by rw [hhd, hz.1]) (((numOk_iff _).1 hn).1.2.2 (by omega)))
            have q1 : (c.toNat : Int) = 48 := by rw [hz.1]; rfl
            rw [q1] at hix
            have q2 : (1 : Int) < (s.size : Int) := by omega
            clear hd hv hlt hp hp9 h8 h0 hps hpos htk hhd hcc hne hz q1
            generalize ((vl s.data.toList : Nat) : Int) = N at *
            go_wp2
            all_goals (refine bodyPost_ret (v := .tuple #[.int .i64 0, .int .i64 11]) (by first | rfl | simp [results, Tryd.results21, go_sem]) rfl ?_; exact ⟨by first | rw [F.out] | rfl, rfl⟩)
          · have hgood : good s.data.toList := ⟨hne, hd, fun h => by rw [hhd]; intro e; exact hz ⟨Option.some.inj e, by omega⟩⟩
            have hcase : (¬ (c.toNat : Int) = 48) ∨ ((c.toNat : Int) = 48 ∧ ¬ (1 : Int) < (s.size : Int)) := by
              by_cases hc : c = 48
              · exact .inr ⟨by rw [hc]; rfl, fun h => hz ⟨hc, by omega⟩⟩
              · exact .inl (fun h => hc (u8_48 (by omega)))
            by_cases hm : vl s.data.toList ≤ 16777215
            · have F : Hid _ := nuR_ok ((numOk_iff _).2 ⟨hgood, hm⟩)
              have q9 : ¬ (16777215 : Int) < ((vl s.data.toList : Nat) : Int) := by omega
              clear hm
              clear hd hv hlt hp hp9 h8 h0 hps hpos htk hhd hcc hne hz hgood
              generalize hG : ((vl s.data.toList : Nat) : Int) = N at *
              rcases hcase with q | ⟨q, q2⟩
              · have q' : ((c.toNat : Int) == 48) = false := by simpa using q
                clear q
                generalize (c.toNat : Int) = C at *
                go_wp2
                all_goals (refine bodyPost_ret (v := .tuple #[.int .i64 N, .int .i64 0]) (by first | rfl | simp [results, Tryd.results21, go_sem]) rfl ?_; exact ⟨by first | rw [F.out] | rfl, rfl⟩)
              · rw [q] at hix
                clear q
                go_wp2
                all_goals (refine bodyPost_ret (v := .tuple #[.int .i64 N, .int .i64 0]) (by first | rfl | simp [results, Tryd.results21, go_sem]) rfl ?_; exact ⟨by first | rw [F.out] | rfl, rfl⟩)
            · have F : Hid _ := nuR_no (l := s.data.toList) (by cases hn : numOk s.data.toList with | false => rfl | true => exact absurd ((numOk_iff _).1 hn).2 hm)
              have q9 : (16777215 : Int) < ((vl s.data.toList : Nat) : Int) := by omega
              clear hm
              clear hd hv hlt hp hp9 h8 h0 hps hpos htk hhd hcc hne hz hgood
              generalize hG : ((vl s.data.toList : Nat) : Int) = N at *
              rcases hcase with q | ⟨q, q2⟩
              · have q' : ((c.toNat : Int) == 48) = false := by simpa using q
                clear q
                generalize (c.toNat : Int) = C at *
                go_wp2
                all_goals (refine bodyPost_ret (v := .tuple #[.int .i64 0, .int .i64 11]) (by first | rfl | simp [results, Tryd.results21, go_sem]) rfl ?_; exact ⟨by first | rw [F.out] | rfl, rfl⟩)
              · rw [q] at hix
                clear q
                go_wp2
                all_goals (refine bodyPost_ret (v := .tuple #[.int .i64 0, .int .i64 11]) (by first | rfl | simp [results, Tryd.results21, go_sem]) rfl ?_; exact ⟨by first | rw [F.out] | rfl, rfl⟩)
end Go.Proofs.YtligmiajlbjecaaDoor

