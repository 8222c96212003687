/- text: Number. -/
import Derived.Test.YtligmiajlbjecaaDoorXTx0
import Derived.Test.YtligmiajlbjecaaDoorXTxN
namespace Go.Proofs.YtligmiajlbjecaaDoor
open Go.RowKit
set_option linter.unusedVariables false
set_option linter.unusedSimpArgs false
set_option maxRecDepth 8000

theorem decode_high (s : ByteArray) (i : Nat) (h : 128 ≤ (s.get! i).toNat) : 128 ≤ (Utf8.decode s i).1 := by
  unfold Utf8.decode
  simp only [Nat.add_zero]
  split
  · omega
  · repeat' split
    all_goals first | omega | (simp_all [Utf8.runeError]; done) | (simp_all; omega)
theorem get_at {s : ByteArray} {i : Nat} (h : i < s.size) : s.get! i = s[i]'h := by
  simp [ByteArray.get!, getElem!_pos, h]
  rfl
theorem run_next_some {P : Program} (w : World) (s : ByteArray) (pos : Nat) (ty : TypeId) (h : pos < s.size) :
    (Instr.next (.pointer (some ⟨w.heap.size, 0, none⟩)) true ty).run P (w.iter s pos) = .ok (.tuple #[.bool true, .int .i64 pos, .int .i32 (Utf8.decode s pos).1]) (w.iter s (pos + (Utf8.decode s pos).2)) := by
  generalize hd : Utf8.decode s pos = d
  obtain ⟨r, k⟩ := d
  simp only [Instr.next, getObj, setObj, Sem.run_bind, Sem.run, World.iter_heap, Result.andThen, h, if_true, hd, World.iter_set]
  simp [goInt, Sem.run, World.iter_heap, World.iter_set]
theorem list_of {s : ByteArray} (e : s.toList = (⟨#[]⟩ : ByteArray).toList) : s.data.toList = [] := by
  rw [ByteArray.toList_eq, ByteArray.toList_eq] at e
  exact e
theorem take_snoc {s : ByteArray} {pos : Nat} (h : pos < s.size) : s.data.toList.take (pos + 1) = s.data.toList.take pos ++ [s[pos]'h] := by
  have h2 : pos < s.data.toList.length := by simpa using h
  rw [List.take_succ_eq_append_getElem h2]; rfl
theorem get_list {s : ByteArray} {pos : Nat} (h : pos < s.size) (h2 : pos < s.data.toList.length) : s.data.toList[pos]'h2 = s[pos]'h := rfl
set_option maxHeartbeats 4000000 in
theorem tNumber_any (s : ByteArray) (w : World) : Calls Tryd.prog 20 #[.string s] w fun e w' => e = .returned (.tuple #[.int .i64 (nuR s.data.toList).1, .int .i64 (nuR s.data.toList).2]) ∧ Below w.heap.size w w' := by
  have hr := run_range_string (P := Tryd.prog) w 9 s Tryd.underlying9
  have hsz : s.data.toList.length = s.size := by simp
  go_enter Tryd.func20, Tryd.ntmps20
  go_wp2_with fail
  go_loopw [4] (fun v wr => ∃ pos : Nat, v = .int .i64 ((vl (s.data.toList.take pos) : Nat) : Int) ∧ pos ≤ s.size ∧ wr = w.iter s pos ∧ (s.data.toList.take pos).all isDg = true ∧ vl (s.data.toList.take pos) ≤ 16777215 ∧ (1 < pos → s.data.toList.head? ≠ some 48)) (fun _ wr => s.size - iterPos w.heap.size wr)
  case atStart => exact ⟨0, rfl, by omega, rfl, rfl, by rw [List.take_zero]; decide, fun h => by omega⟩
  case round =>
    obtain ⟨pos, rfl, hp, rfl, hd, hv, hl⟩ := hrel
    by_cases hlt : pos < s.size
    · have hc := take_snoc hlt
      have hgl := get_list hlt (by omega : pos < s.data.toList.length)
      obtain ⟨c, hcc⟩ : ∃ c, s[pos]'hlt = c := ⟨_, rfl⟩
      rw [hcc] at hc hgl
      by_cases h128 : c.toNat < 128
      · have hn := run_next_ascii (P := Tryd.prog) w s pos 0 hlt (by rw [hcc]; omega)
        rw [hcc] at hn
        by_cases hdg : isDg c = true
        · have hcb : 48 ≤ c.toNat ∧ c.toNat ≤ 57 := by simpa [isDg] using hdg
          have hv1 : vl (s.data.toList.take (pos + 1)) = 10 * vl (s.data.toList.take pos) + (c.toNat - 48) := by rw [hc, vl_snoc]
          have hd1 : (s.data.toList.take (pos + 1)).all isDg = true := by rw [hc, List.all_append, hd]; simp [hdg]
          by_cases hld : 0 < pos ∧ vl (s.data.toList.take pos) = 0
          · have F : Hid _ := nuR_no (bad_lead (l := s.data.toList) (k := pos) hld.1 (by omega) hd hld.2)
            have q0 : (0 : Int) < (pos : Int) := by omega
            have q3 : ((vl (s.data.toList.take pos) : Nat) : Int) = 0 := by omega
            rw [q3]
            have q1 : ¬ ((c.toNat : Int) < 48) := by omega
            have q2 : ¬ ((57 : Int) < (c.toNat : Int)) := by omega
            clear hc hgl hcc hd hv hl h128 hdg hcb hv1 hd1 hld q3
            generalize (c.toNat : Int) = C at *
            go_wp2
            all_goals (refine bodyPost_ret (v := .tuple #[.int .i64 0, .int .i64 11]) (by first | rfl | simp [results, Tryd.results20, go_sem]) rfl ?_; exact ⟨by rw [F.out], iter_below _ _ _⟩)
          · have q1 : ¬ ((c.toNat : Int) < 48) := by omega
            have q2 : ¬ ((57 : Int) < (c.toNat : Int)) := by omega
            obtain ⟨N, hN⟩ : ∃ N : Int, N = ((vl (s.data.toList.take pos) : Nat) : Int) := ⟨_, rfl⟩
            obtain ⟨C, hC⟩ : ∃ C : Int, C = (c.toNat : Int) := ⟨_, rfl⟩
            have e1 : ((vl (s.data.toList.take (pos + 1)) : Nat) : Int) = 10 * N + (C - 48) := by rw [hv1]; omega
            have w1 : IntKind.i64.wrap (10 * N) = 10 * N := by rw [IntKind.wrap_i64]; omega
            have w2 : IntKind.i32.wrap (C - 48) = C - 48 := by rw [IntKind.wrap_i32]; omega
            have w3 : IntKind.i64.wrap (C - 48) = C - 48 := by rw [IntKind.wrap_i64]; omega
            have w4 : IntKind.i64.wrap (10 * N + (C - 48)) = 10 * N + (C - 48) := by rw [IntKind.wrap_i64]; omega
            have hlead : pos = 0 ∨ (0 < pos ∧ ¬ N = 0) := by rcases Nat.eq_zero_or_pos pos with h | h; exact .inl h; exact .inr ⟨h, fun e => hld ⟨h, by omega⟩⟩
            have hl1 : 1 < pos + 1 → s.data.toList.head? ≠ some 48 := by
              intro h1
              by_cases h2 : 1 < pos
              · exact hl h2
              · have e : pos = 1 := by omega
                intro hh
                refine hld ⟨by omega, ?_⟩
                subst e
                rw [← head_take (k := 1) (by omega)] at hh
                obtain ⟨x, hx⟩ : ∃ x, s.data.toList.take 1 = [x] := by
                  have hlen : (s.data.toList.take 1).length = 1 := by rw [List.length_take]; omega
                  exact List.length_eq_one_iff.1 hlen
                rw [hx] at hh ⊢
                have : x = 48 := Option.some.inj hh
                rw [this]; decide
            by_cases hgr : 16777215 < vl (s.data.toList.take (pos + 1))
            · have F : Hid _ := nuR_no (bad_great hgr)
              have q4 : (16777215 : Int) < 10 * N + (C - 48) := by omega
              rw [← hN]
              rw [← hC] at hn q1 q2
              clear hc hgl hcc hd hv hl h128 hdg hcb hv1 hd1 hld hl1 hgr e1 hN hC
              rcases hlead with rfl | ⟨hp0, hN0⟩
              · rw [show ((0 : Nat) : Int) = 0 from rfl] at hn
                go_wp2
                all_goals (refine bodyPost_ret (v := .tuple #[.int .i64 0, .int .i64 11]) (by first | rfl | simp [results, Tryd.results20, go_sem]) rfl ?_; exact ⟨by rw [F.out], iter_below _ _ _⟩)
              · have q0 : (0 : Int) < (pos : Int) := by omega
                have q5 : (N == 0) = false := by simpa using hN0
                clear hN0 hp0
                go_wp2
                all_goals (refine bodyPost_ret (v := .tuple #[.int .i64 0, .int .i64 11]) (by first | rfl | simp [results, Tryd.results20, go_sem]) rfl ?_; exact ⟨by rw [F.out], iter_below _ _ _⟩)
            · have q4 : ¬ (16777215 : Int) < 10 * N + (C - 48) := by omega
              have F : Hid _ := And.intro e1 (And.intro hd1 (And.intro (show vl (s.data.toList.take (pos + 1)) ≤ 16777215 by omega) hl1))
              rw [← hN]
              rw [← hC] at hn q1 q2
              clear hc hgl hcc hd hv hl h128 hdg hcb hv1 hd1 hld hl1 hgr e1 hN hC
              rcases hlead with rfl | ⟨hp0, hN0⟩
              · rw [show ((0 : Nat) : Int) = 0 from rfl] at hn
                go_wp2
                go_roundw
                case rel => exact ⟨_, by rw [F.out.1], by omega, rfl, F.out.2.1, F.out.2.2.1, F.out.2.2.2⟩
                case measure => rw [iterPos_iter, iterPos_iter]; omega
              · have q0 : (0 : Int) < (pos : Int) := by omega
                have q5 : (N == 0) = false := by simpa using hN0
                clear hN0 hp0
                go_wp2
                go_roundw
                case rel => exact ⟨_, by rw [F.out.1], by omega, rfl, F.out.2.1, F.out.2.2.1, F.out.2.2.2⟩
                case measure => rw [iterPos_iter, iterPos_iter]; omega
        · have F : Hid _ := nuR_no (bad_digit (l := s.data.toList) (k := pos) (by omega) (by rw [hgl]; simpa using hdg))
          have q : (c.toNat : Int) < 48 ∨ (57 : Int) < (c.toNat : Int) := by simp [isDg] at hdg; omega
          clear hc hgl hcc hd hv hl h128 hdg
          generalize ((vl (s.data.toList.take pos) : Nat) : Int) = N at *
          generalize (c.toNat : Int) = C at *
          rcases q with q | q
          · have q2 : ¬ (57 : Int) < C := by omega
            go_wp2
            all_goals (refine bodyPost_ret (v := .tuple #[.int .i64 0, .int .i64 11]) (by first | rfl | simp [results, Tryd.results20, go_sem]) rfl ?_; exact ⟨by rw [F.out], iter_below _ _ _⟩)
          · have q2 : ¬ (C < 48) := by omega
            go_wp2
            all_goals (refine bodyPost_ret (v := .tuple #[.int .i64 0, .int .i64 11]) (by first | rfl | simp [results, Tryd.results20, go_sem]) rfl ?_; exact ⟨by rw [F.out], iter_below _ _ _⟩)
      · have hn := run_next_some (P := Tryd.prog) w s pos 0 hlt
        have hge := decode_high s pos (by rw [get_at hlt, hcc]; omega)
        generalize hdc : Utf8.decode s pos = dc at *
        obtain ⟨r, k⟩ := dc
        simp only at hge hn
        have F : Hid _ := nuR_no (bad_digit (l := s.data.toList) (k := pos) (by omega) (by rw [hgl]; simp [isDg]; omega))
        have q1 : ¬ ((r : Int) < 48) := by omega
        have q2 : (57 : Int) < r := by omega
        clear hc hgl hcc hd hv hl hge hdc h128
        generalize (r : Int) = C at *
        generalize ((vl (s.data.toList.take pos) : Nat) : Int) = N at *
        go_wp2
        all_goals (refine bodyPost_ret (v := .tuple #[.int .i64 0, .int .i64 11]) (by first | rfl | simp [results, Tryd.results20, go_sem]) rfl ?_; exact ⟨by rw [F.out], iter_below _ _ _⟩)
    · have hps : pos = s.size := by omega
      have htk : s.data.toList.take pos = s.data.toList := List.take_of_length_le (by omega)
      have hn := run_next_end (P := Tryd.prog) w s pos 0 hlt
      rw [htk] at hd hv ⊢
      by_cases h0 : s.data.toList = []
      · have F : Hid _ := nuR_no (show numOk s.data.toList = false by unfold numOk; rw [h0]; rfl)
        have hse : s = ⟨#[]⟩ := by cases s with | mk d => simp at h0; simp [h0]
        subst hse
        clear hd hv hl hps htk hlt hp h0 hsz hr
        generalize ((vl _ : Nat) : Int) = N at *
        go_wp2
        all_goals (refine bodyPost_ret (v := .tuple #[.int .i64 0, .int .i64 11]) (by first | rfl | simp [results, Tryd.results20, go_sem]) rfl ?_; exact ⟨by rw [F.out], iter_below _ _ _⟩)
      · have F : Hid _ := nuR_ok ((numOk_iff _).2 ⟨⟨h0, hd, fun h => hl (by omega)⟩, hv⟩)
        have hne2 : s.toList.isEmpty = false := by
          rw [ByteArray.toList_eq]
          cases hh : s.data.toList with
          | nil => exact absurd hh h0
          | cons a b => rfl
        clear hd hv hl hps htk hlt hp h0 hsz
        generalize hG : ((vl s.data.toList : Nat) : Int) = N at *
        go_wp2
        refine bodyPost_ret (v := .tuple #[.int .i64 N, .int .i64 0]) (by first | rfl | simp [results, Tryd.results20, go_sem]) rfl ?_
        exact ⟨by rw [F.out], iter_below _ _ _⟩
end Go.Proofs.YtligmiajlbjecaaDoor

/- text, the document's: Number. -/
namespace Go.Proofs.YtligmiajlbjecaaDoor
open Go.RowKit
set_option linter.unusedVariables false
set_option linter.unusedSimpArgs false
set_option maxRecDepth 8000

theorem head_of {s : ByteArray} (h : 0 < s.size) : s.data.toList.head? = some (s[0]'h) := by
  have h2 : 0 < s.data.toList.length := by simpa using h
  rw [List.head?_eq_getElem?, List.getElem?_eq_getElem h2]
  rfl
theorem len_nil {s : ByteArray} (h : s.size = 0) : s.data.toList = [] := List.length_eq_zero_iff.1 (by simpa using h)
theorem ix_str (s : ByteArray) (pos : Nat) (h : pos < s.size) (w : World) : (Instr.index 9 (.string s) (.int .i64 (pos : Int))).run Tryd.prog w = .ok (.int .u8 ((s[pos]'h).toNat : Int)) w := by
  have hu : Tryd.prog.underlying 9 = some .string := Tryd.underlying9
  simp [Instr.index, run_underlying hu, h, go_sem]
set_option maxHeartbeats 4000000 in
theorem rNumber_any (s : ByteArray) (w : World) (hbig : s.size ≤ 9223372036854775807) : Calls Tryd.prog 21 #[.string s] w fun e w' => e = .returned (.tuple #[.int .i64 (nuR s.data.toList).1, .int .i64 (nuR s.data.toList).2]) ∧ w = w' := by
  have hsz : s.data.toList.length = s.size := by simp
  go_enter Tryd.func21, Tryd.ntmps21
  go_wp2_with fail
  go_loopw [4, 5] (fun v u wr => ∃ pos : Nat, v = .int .i64 ((vl (s.data.toList.take pos) : Nat) : Int) ∧ u = .int .i64 (pos : Int) ∧ pos ≤ s.size ∧ pos ≤ 9 ∧ wr = w ∧ (s.data.toList.take pos).all isDg = true ∧ vl (s.data.toList.take pos) < 10 ^ pos) (fun _ u _ => 9 - (intOf u).toNat)
  case atStart => exact ⟨0, rfl, rfl, by omega, by omega, rfl, rfl, by rw [List.take_zero]; decide⟩
  case round =>
    obtain ⟨pos, rfl, rfl, hp, hp9, rfl, hd, hv⟩ := hrel
    by_cases hlt : pos < s.size ∧ pos < 9
    · obtain ⟨hlt, h9⟩ := hlt
      have hc := take_snoc hlt
      have hgl := get_list hlt (by omega : pos < s.data.toList.length)
      obtain ⟨c, hcc⟩ : ∃ c, s[pos]'hlt = c := ⟨_, rfl⟩
      rw [hcc] at hc hgl
      have hix : ∀ W, (Instr.index 9 (.string s) (.int .i64 (pos : Int))).run Tryd.prog W = .ok (.int .u8 (c.toNat : Int)) W := fun W => by rw [← hcc]; exact ix_str s pos hlt W
      have t1 : (pos : Int) < (s.size : Int) := by omega
      have t2 : (pos : Int) < 9 := by omega
      by_cases hdg : isDg c = true
      · have hcb : 48 ≤ c.toNat ∧ c.toNat ≤ 57 := by simpa [isDg] using hdg
        have hv1 : vl (s.data.toList.take (pos + 1)) = 10 * vl (s.data.toList.take pos) + (c.toNat - 48) := by rw [hc, vl_snoc]
        have hd1 : (s.data.toList.take (pos + 1)).all isDg = true := by rw [hc, List.all_append, hd]; simp [hdg]
        have hten : (10 : Nat) ^ pos ≤ 10 ^ 8 := Nat.pow_le_pow_right (by omega) (by omega)
        have hten' : (10 : Nat) ^ 8 = 100000000 := rfl
        have hps : (10 : Nat) ^ (pos + 1) = 10 ^ pos * 10 := Nat.pow_succ ..
        have hv2 : vl (s.data.toList.take (pos + 1)) < 10 ^ (pos + 1) := by rw [hps, hv1]; omega
        obtain ⟨N, hN⟩ : ∃ N : Int, N = ((vl (s.data.toList.take pos) : Nat) : Int) := ⟨_, rfl⟩
        obtain ⟨C, hC⟩ : ∃ C : Int, C = (c.toNat : Int) := ⟨_, rfl⟩
        have e1 : ((vl (s.data.toList.take (pos + 1)) : Nat) : Int) = 10 * N + (C - 48) := by rw [hv1]; omega
        have q1 : ¬ (C < 48) := by omega
        have q2 : ¬ ((57 : Int) < C) := by omega
        have w1 : IntKind.i64.wrap (10 * N) = 10 * N := by rw [IntKind.wrap_i64]; omega
        have w2 : IntKind.u8.wrap (C - 48) = C - 48 := by rw [IntKind.wrap_u8]; omega
        have w3 : IntKind.i64.wrap (C - 48) = C - 48 := by rw [IntKind.wrap_i64]; omega
        have w4 : IntKind.i64.wrap (10 * N + (C - 48)) = 10 * N + (C - 48) := by rw [IntKind.wrap_i64]; omega
        have w5 : IntKind.i64.wrap ((pos : Int) + 1) = (pos : Int) + 1 := by rw [IntKind.wrap_i64]; omega
        have F : Hid _ := And.intro e1 (And.intro hd1 hv2)
        rw [← hN]
        rw [← hC] at hix
        clear hc hgl hcc hd hv hdg hcb hv1 hd1 hv2 e1 hN hC hten hten' hps
        go_wp2
        go_roundw
        case rel => exact ⟨pos + 1, by rw [F.out.1], by first | rfl | (congr 1; omega), by omega, by omega, by trivial, F.out.2.1, F.out.2.2⟩
        case measure => simp [intOf]; omega
      · have F : Hid _ := nuR_no (l := s.data.toList) (bad_digit (l := s.data.toList) (k := pos) (by omega) (by rw [hgl]; simpa using hdg))
        have q : (c.toNat : Int) < 48 ∨ (57 : Int) < (c.toNat : Int) := by simp [isDg] at hdg; omega
        clear hc hgl hcc hd hv hdg hp hp9
        generalize ((vl (s.data.toList.take pos) : Nat) : Int) = N at *
        generalize (c.toNat : Int) = C at *
        rcases q with q | q
        · have q2 : ¬ (57 : Int) < C := by omega
          go_wp2
          all_goals (refine bodyPost_ret (v := .tuple #[.int .i64 0, .int .i64 11]) (by first | rfl | simp [results, Tryd.results21, go_sem]) rfl ?_; exact ⟨by first | rw [F.out] | rfl, rfl⟩)
        · have q2 : ¬ (C < 48) := by omega
          go_wp2
          all_goals (refine bodyPost_ret (v := .tuple #[.int .i64 0, .int .i64 11]) (by first | rfl | simp [results, Tryd.results21, go_sem]) rfl ?_; exact ⟨by first | rw [F.out] | rfl, rfl⟩)
    · by_cases h0 : s.size = 0
      · have F : Hid _ := nuR_no (l := s.data.toList) (show numOk s.data.toList = false by unfold numOk; rw [len_nil h0]; rfl)
        have hse : s = ByteArray.empty := by cases s with | mk d => (simp [ByteArray.size] at h0; subst h0; rfl)
        have tp : pos = 0 := by omega
        subst tp
        clear hsz hbig h0
        subst hse
        clear hd hv hlt hp hp9
        generalize ((vl (List.take 0 _) : Nat) : Int) = N at *
        rw [show ((0 : Nat) : Int) = 0 from rfl]
        go_wp2
        all_goals (refine bodyPost_ret (v := .tuple #[.int .i64 0, .int .i64 11]) (by first | rfl | simp [results, Tryd.results21, go_sem]) rfl ?_; exact ⟨by first | rw [F.out] | rfl, rfl⟩)
      · by_cases h8 : 8 < s.size
        · have F : Hid _ := nuR_no (l := s.data.toList) (long_bad (by omega))
          have hse : ¬ s = ByteArray.empty := fun e => by rw [e] at h0; exact h0 rfl
          have t1 : (8 : Int) < (s.size : Int) := by omega
          have t2 : ¬ (s.size : Int) = 0 := by omega
          have t3 : ¬ (pos : Int) < 9 := by omega
          have t4 : (pos : Int) < (s.size : Int) ∨ ¬ (pos : Int) < (s.size : Int) := by omega
          clear hd hv hlt hp hp9 h8 h0
          generalize ((vl (s.data.toList.take pos) : Nat) : Int) = N at *
          rcases t4 with t4 | t4
          · go_wp2
            all_goals (refine bodyPost_ret (v := .tuple #[.int .i64 0, .int .i64 11]) (by first | rfl | simp [results, Tryd.results21, go_sem]) rfl ?_; exact ⟨by first | rw [F.out] | rfl, rfl⟩)
          · go_wp2
            all_goals (refine bodyPost_ret (v := .tuple #[.int .i64 0, .int .i64 11]) (by first | rfl | simp [results, Tryd.results21, go_sem]) rfl ?_; exact ⟨by first | rw [F.out] | rfl, rfl⟩)
        · have hps : pos = s.size := by omega
          have hpos : 0 < s.size := by omega
          have htk : s.data.toList.take pos = s.data.toList := List.take_of_length_le (by omega)
          rw [htk] at hd hv ⊢
          have hhd := head_of hpos
          obtain ⟨c, hcc⟩ : ∃ c, s[0]'hpos = c := ⟨_, rfl⟩
          rw [hcc] at hhd
          have hix : ∀ W, (Instr.index 9 (.string s) (.int .i64 0)).run Tryd.prog W = .ok (.int .u8 (c.toNat : Int)) W := fun W => by rw [← hcc]; exact ix_str s 0 hpos W
          have hse : ¬ s = ByteArray.empty := fun e => by rw [e] at h0; exact h0 rfl
          have t1 : ¬ (8 : Int) < (s.size : Int) := by omega
          have t2 : ¬ (s.size : Int) = 0 := by omega
          have t3 : ¬ (pos : Int) < (s.size : Int) := by omega
          have t5 : (0 : Int) < (s.size : Int) := by omega
          have hne : s.data.toList ≠ [] := fun e => by rw [e] at hhd; cases hhd
          by_cases hz : c = 48 ∧ 1 < s.size
          · have F : Hid _ := nuR_no (l := s.data.toList) (by cases hn : numOk s.data.toList with | false => rfl | true => exact absurd (by rw [hhd, hz.1]) (((numOk_iff _).1 hn).1.2.2 (by omega)))
            have q1 : (c.toNat : Int) = 48 := by rw [hz.1]; rfl
            rw [q1] at hix
            have q2 : (1 : Int) < (s.size : Int) := by omega
            clear hd hv hlt hp hp9 h8 h0 hps hpos htk hhd hcc hne hz q1
            generalize ((vl s.data.toList : Nat) : Int) = N at *
            go_wp2
            all_goals (refine bodyPost_ret (v := .tuple #[.int .i64 0, .int .i64 11]) (by first | rfl | simp [results, Tryd.results21, go_sem]) rfl ?_; exact ⟨by first | rw [F.out] | rfl, rfl⟩)
          · have hgood : good s.data.toList := ⟨hne, hd, fun h => by rw [hhd]; intro e; exact hz ⟨Option.some.inj e, by omega⟩⟩
            have hcase : (¬ (c.toNat : Int) = 48) ∨ ((c.toNat : Int) = 48 ∧ ¬ (1 : Int) < (s.size : Int)) := by
              by_cases hc : c = 48
              · exact .inr ⟨by rw [hc]; rfl, fun h => hz ⟨hc, by omega⟩⟩
              · exact .inl (fun h => hc (u8_48 (by omega)))
            by_cases hm : vl s.data.toList ≤ 16777215
            · have F : Hid _ := nuR_ok ((numOk_iff _).2 ⟨hgood, hm⟩)
              have q9 : ¬ (16777215 : Int) < ((vl s.data.toList : Nat) : Int) := by omega
              clear hm
              clear hd hv hlt hp hp9 h8 h0 hps hpos htk hhd hcc hne hz hgood
              generalize hG : ((vl s.data.toList : Nat) : Int) = N at *
              rcases hcase with q | ⟨q, q2⟩
              · have q' : ((c.toNat : Int) == 48) = false := by simpa using q
                clear q
                generalize (c.toNat : Int) = C at *
                go_wp2
                all_goals (refine bodyPost_ret (v := .tuple #[.int .i64 N, .int .i64 0]) (by first | rfl | simp [results, Tryd.results21, go_sem]) rfl ?_; exact ⟨by first | rw [F.out] | rfl, rfl⟩)
              · rw [q] at hix
                clear q
                go_wp2
                all_goals (refine bodyPost_ret (v := .tuple #[.int .i64 N, .int .i64 0]) (by first | rfl | simp [results, Tryd.results21, go_sem]) rfl ?_; exact ⟨by first | rw [F.out] | rfl, rfl⟩)
            · have F : Hid _ := nuR_no (l := s.data.toList) (by cases hn : numOk s.data.toList with | false => rfl | true => exact absurd ((numOk_iff _).1 hn).2 hm)
              have q9 : (16777215 : Int) < ((vl s.data.toList : Nat) : Int) := by omega
              clear hm
              clear hd hv hlt hp hp9 h8 h0 hps hpos htk hhd hcc hne hz hgood
              generalize hG : ((vl s.data.toList : Nat) : Int) = N at *
              rcases hcase with q | ⟨q, q2⟩
              · have q' : ((c.toNat : Int) == 48) = false := by simpa using q
                clear q
                generalize (c.toNat : Int) = C at *
                go_wp2
                all_goals (refine bodyPost_ret (v := .tuple #[.int .i64 0, .int .i64 11]) (by first | rfl | simp [results, Tryd.results21, go_sem]) rfl ?_; exact ⟨by first | rw [F.out] | rfl, rfl⟩)
              · rw [q] at hix
                clear q
                go_wp2
                all_goals (refine bodyPost_ret (v := .tuple #[.int .i64 0, .int .i64 11]) (by first | rfl | simp [results, Tryd.results21, go_sem]) rfl ?_; exact ⟨by first | rw [F.out] | rfl, rfl⟩)
end Go.Proofs.YtligmiajlbjecaaDoor

/- text: what can be a value, of both. -/
namespace Go.Proofs.YtligmiajlbjecaaDoor
open Go.RowKit
set_option linter.unusedVariables false
set_option linter.unusedSimpArgs false
set_option maxRecDepth 8000

def vaC (c : UInt8) : Bool := decide (32 ≤ c.toNat ∧ c.toNat ≤ 126)
/-- what can be a value -/
def valB18 (l : List UInt8) : Bool := decide (l.length ≤ 255) && l.all vaC
theorem val_bad {l : List UInt8} {k : Nat} (hk : k < l.length) (h : vaC (l[k]'hk) = false) : valB18 l = false := by
  unfold valB18
  rw [Bool.and_eq_false_iff]
  refine .inr ?_
  rw [List.all_eq_false]
  exact ⟨_, List.getElem_mem hk, by rw [h]; decide⟩
theorem val_long {l : List UInt8} (h : ¬ l.length ≤ 255) : valB18 l = false := by
  unfold valB18
  rw [decide_eq_false h]; rfl
theorem val_good {l : List UInt8} (h : l.length ≤ 255) (ha : l.all vaC = true) : valB18 l = true := by
  unfold valB18
  rw [decide_eq_true h, ha]; rfl
set_option maxHeartbeats 4000000 in
theorem tVal_any (s : ByteArray) (w : World) : Calls Tryd.prog 42 #[.string s] w fun e w' => e = .returned (.bool (valB18 s.data.toList)) ∧ Below w.heap.size w w' := by
  have hr := run_range_string (P := Tryd.prog) w 9 s Tryd.underlying9
  have hsz : s.data.toList.length = s.size := by simp
  by_cases hl : 255 < s.size
  · have F : Hid _ := val_long (l := s.data.toList) (by omega)
    have q : (255 : Int) < (s.size : Int) := by omega
    clear hr
    go_enter Tryd.func42, Tryd.ntmps42
    go_wp2
    all_goals (go_ret; exact ⟨by first | (rw [F.out]; done) | (rw [F.out]; rfl), Below.refl _ _⟩)
  · have q : ¬ (255 : Int) < (s.size : Int) := by omega
    go_enter Tryd.func42, Tryd.ntmps42
    go_wp2_with fail
    go_loopw [4] (fun _ wr => ∃ pos : Nat, pos ≤ s.size ∧ wr = w.iter s pos ∧ (s.data.toList.take pos).all vaC = true) (fun _ wr => s.size - iterPos w.heap.size wr)
    case atStart => exact ⟨0, by omega, rfl, rfl⟩
    case round =>
      obtain ⟨pos, hp, rfl, hd⟩ := hrel
      by_cases hlt : pos < s.size
      · have hc := take_snoc hlt
        have hgl := get_list hlt (by omega : pos < s.data.toList.length)
        obtain ⟨c, hcc⟩ : ∃ c, s[pos]'hlt = c := ⟨_, rfl⟩
        rw [hcc] at hc hgl
        by_cases hv : vaC c = true
        · have hb : 32 ≤ c.toNat ∧ c.toNat ≤ 126 := by simpa [vaC] using hv
          have hn := run_next_ascii (P := Tryd.prog) w s pos 0 hlt (by rw [hcc]; omega)
          rw [hcc] at hn
          have F : Hid ((s.data.toList.take (pos + 1)).all vaC = true) := (by rw [hc, List.all_append, hd]; simp [hv] : (s.data.toList.take (pos + 1)).all vaC = true)
          have q1 : ¬ ((c.toNat : Int) < 32) := by omega
          have q2 : ¬ ((126 : Int) < (c.toNat : Int)) := by omega
          clear hc hgl hcc hd hv hb
          generalize (c.toNat : Int) = C at *
          go_wp2
          go_roundw
          case rel => exact ⟨pos + 1, by omega, rfl, F.out⟩
          case measure => rw [iterPos_iter, iterPos_iter]; omega
        · have F : Hid _ := val_bad (l := s.data.toList) (k := pos) (by omega) (by rw [hgl]; simpa using hv)
          have hn := run_next_some (P := Tryd.prog) w s pos 0 hlt
          have hq : (((Utf8.decode s pos).1 : Int) < 32) ∨ (126 : Int) < ((Utf8.decode s pos).1 : Int) := by
            by_cases h128 : c.toNat < 128
            · rw [decode_ascii s pos hlt (by rw [hcc]; exact h128), hcc]
              simp [vaC] at hv
              show ((c.toNat : Int) < 32) ∨ (126 : Int) < (c.toNat : Int)
              omega
            · have := decode_high s pos (by rw [get_at hlt, hcc]; omega)
              omega
          generalize hdc : Utf8.decode s pos = dc at *
          obtain ⟨x, k⟩ := dc
          simp only at hn hq
          clear hc hgl hcc hd hv hdc
          generalize (x : Int) = C at *
          rcases hq with hq | hq
          · go_wp2
            all_goals (go_ret; exact ⟨by first | (rw [F.out]; done) | (rw [F.out]; rfl), iter_below _ _ _⟩)
          · have hq2 : ¬ (C < 32) := by omega
            go_wp2
            all_goals (go_ret; exact ⟨by first | (rw [F.out]; done) | (rw [F.out]; rfl), iter_below _ _ _⟩)
      · have htk : s.data.toList.take pos = s.data.toList := List.take_of_length_le (by omega)
        rw [htk] at hd
        have F : Hid _ := val_good (l := s.data.toList) (by omega) hd
        have hn := run_next_end (P := Tryd.prog) w s pos 0 hlt
        clear hd hlt htk
        go_wp2
        all_goals (go_ret; exact ⟨by first | (rw [F.out]; done) | (rw [F.out]; rfl), iter_below _ _ _⟩)
set_option maxHeartbeats 4000000 in
theorem rVal_any (s : ByteArray) (w : World) (hbig : s.size ≤ 9223372036854775807) : Calls Tryd.prog 33 #[.string s] w fun e w' => e = .returned (.bool (valB18 s.data.toList)) ∧ w = w' := by
  have hsz : s.data.toList.length = s.size := by simp
  go_enter Tryd.func33, Tryd.ntmps33
  go_wp2_with fail
  go_loopw [3] (fun u wr => ∃ pos : Nat, u = .int .i64 (pos : Int) ∧ pos ≤ s.size ∧ wr = w ∧ (s.data.toList.take pos).all vaC = true) (fun u _ => s.size - (intOf u).toNat)
  case atStart => exact ⟨0, rfl, by omega, rfl, rfl⟩
  case round =>
    obtain ⟨pos, rfl, hp, rfl, hd⟩ := hrel
    by_cases hlt : pos < s.size
    · have hc := take_snoc hlt
      have hgl := get_list hlt (by omega : pos < s.data.toList.length)
      obtain ⟨c, hcc⟩ : ∃ c, s[pos]'hlt = c := ⟨_, rfl⟩
      rw [hcc] at hc hgl
      have hix : ∀ W, (Instr.index 9 (.string s) (.int .i64 (pos : Int))).run Tryd.prog W = .ok (.int .u8 (c.toNat : Int)) W := fun W => by rw [← hcc]; exact ix_str s pos hlt W
      have t1 : (pos : Int) < (s.size : Int) := by omega
      by_cases hv : vaC c = true
      · have hb : 32 ≤ c.toNat ∧ c.toNat ≤ 126 := by simpa [vaC] using hv
        have F : Hid ((s.data.toList.take (pos + 1)).all vaC = true) := (by rw [hc, List.all_append, hd]; simp [hv] : (s.data.toList.take (pos + 1)).all vaC = true)
        have q1 : ¬ ((c.toNat : Int) < 32) := by omega
        have q2 : ¬ ((126 : Int) < (c.toNat : Int)) := by omega
        have w5 : IntKind.i64.wrap ((pos : Int) + 1) = (pos : Int) + 1 := by rw [IntKind.wrap_i64]; omega
        clear hc hgl hcc hd hv hb
        generalize (c.toNat : Int) = C at *
        go_wp2
        go_roundw
        case rel => exact ⟨pos + 1, by first | rfl | (congr 1; omega), by omega, by trivial, F.out⟩
        case measure => simp [intOf]; omega
      · have F : Hid _ := val_bad (l := s.data.toList) (k := pos) (by omega) (by rw [hgl]; simpa using hv)
        have hq : ((c.toNat : Int) < 32) ∨ (126 : Int) < (c.toNat : Int) := by simp [vaC] at hv; omega
        clear hc hgl hcc hd hv
        generalize (c.toNat : Int) = C at *
        rcases hq with hq | hq
        · go_wp2
          all_goals (go_ret; exact ⟨by first | (rw [F.out]; done) | (rw [F.out]; rfl), rfl⟩)
        · have hq2 : ¬ (C < 32) := by omega
          go_wp2
          all_goals (go_ret; exact ⟨by first | (rw [F.out]; done) | (rw [F.out]; rfl), rfl⟩)
    · have htk : s.data.toList.take pos = s.data.toList := List.take_of_length_le (by omega)
      rw [htk] at hd
      have t1 : ¬ (pos : Int) < (s.size : Int) := by omega
      by_cases hl : s.size ≤ 255
      · have F : Hid _ := val_good (l := s.data.toList) (by omega) hd
        have t2 : (s.size : Int) ≤ 255 := by omega
        clear hd hlt htk hl
        go_wp2
        all_goals (go_ret; exact ⟨by first | (rw [F.out]; done) | (rw [F.out]; rfl), rfl⟩)
      · have F : Hid _ := val_long (l := s.data.toList) (by omega)
        have t2 : ¬ (s.size : Int) ≤ 255 := by omega
        clear hd hlt htk hl
        go_wp2
        all_goals (go_ret; exact ⟨by first | (rw [F.out]; done) | (rw [F.out]; rfl), rfl⟩)
end Go.Proofs.YtligmiajlbjecaaDoor
