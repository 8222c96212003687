/- text: Number. -/
import Derived.Test.YtligmiajlbjecaaDoorXTx0
import Derived.Test.YtligmiajlbjecaaDoorXTxN
namespace Go.Proofs.YtligmiajlbjecaaDoor
open Go.RowKit
set_option linter.unusedVariables false
set_option linter.unusedSimpArgs false
set_option maxRecDepth 8000

theorem decode_high (s : ByteArray) (i : Nat) (h : 128 ≤ (s.get! i).toNat) : 128 ≤ (Utf8.decode s i).1 := by
  unfold Utf8.decode
  simp only [Nat.add_zero]
  split
  · omega
  · repeat' split
    all_goals first | omega | (simp_all [Utf8.runeError]; done) | (simp_all; omega)
theorem get_at {s : ByteArray} {i : Nat} (h : i < s.size) : s.get! i = s[i]'h := by
  simp [ByteArray.get!, getElem!_pos, h]
  rfl
theorem run_next_some {P : Program} (w : World) (s : ByteArray) (pos : Nat) (ty : TypeId) (h : pos < s.size) :
    (Instr.next (.pointer (some ⟨w.heap.size, 0, none⟩)) true ty).run P (w.iter s pos) = .ok (.tuple #[.bool true, .int .i64 pos, .int .i32 (Utf8.decode s pos).1]) (w.iter s (pos + (Utf8.decode s pos).2)) := by
  generalize hd : Utf8.decode s pos = d
  obtain ⟨r, k⟩ := d
  simp only [Instr.next, getObj, setObj, Sem.run_bind, Sem.run, World.iter_heap, Result.andThen, h, if_true, hd, World.iter_set]
  simp [goInt, Sem.run, World.iter_heap, World.iter_set]
theorem list_of {s : ByteArray} (e : s.toList = (⟨#[]⟩ : ByteArray).toList) : s.data.toList = [] := by
  rw [ByteArray.toList_eq, ByteArray.toList_eq] at e
  exact e
theorem take_snoc {s : ByteArray} {pos : Nat} (h : pos < s.size) : s.data.toList.take (pos + 1) = s.data.toList.take pos ++ [s[pos]'h] := by
  have h2 : pos < s.data.toList.length := by simpa using h
  rw [List.take_succ_eq_append_getElem h2]; rfl
theorem get_list {s : ByteArray} {pos : Nat} (h : pos < s.size) (h2 : pos < s.data.toList.length) : s.data.toList[pos]'h2 = s[pos]'h := rfl
set_option maxHeartbeats 4000000 in
theorem tNumber_any (s : ByteArray) (w : World) : Calls Tryd.prog 20 #[.string s] w fun e w' => e = .returned (.tuple #[.int .i64 (nuR s.data.toList).1, .int .i64 (nuR s.data.toList).2]) ∧ Below w.heap.size w w' := by
  have hr := run_range_string (P := Tryd.prog) w 9 s Tryd.underlying9
  have hsz : s.data.toList.length = s.size := by simp
  go_enter Tryd.func20, Tryd.ntmps20
  go_wp2_with fail
  go_loopw [4] (fun v wr => ∃ pos : Nat, v = .int .i64 ((vl (s.data.toList.take pos) : Nat) : Int) ∧ pos ≤ s.size ∧ wr = w.iter s pos ∧ (s.data.toList.take pos).all isDg = true ∧ vl (s.data.toList.take pos) ≤ 16777215 ∧ (1 < pos → s.data.toList.head? ≠ some 48)) (fun _ wr => s.size - iterPos w.heap.size wr)
  case atStart => exact ⟨0, rfl, by omega, rfl, rfl, by rw [List.take_zero]; decide, fun h => by omega⟩
  case round =>
    obtain ⟨pos, rfl, hp, rfl, hd, hv, hl⟩ := hrel
    by_cases hlt : pos < s.size
    · have hc := take_snoc hlt
      have hgl := get_list hlt (by omega : pos < s.data.toList.length)
      obtain ⟨c, hcc⟩ : ∃ c, s[pos]'hlt = c := ⟨_, rfl⟩
      rw [hcc] at hc hgl
      by_cases h128 : c.toNat < 128
      · have hn := run_next_ascii (P := Tryd.prog) w s pos 0 hlt (by rw [hcc]; omega)
        rw [hcc] at hn
        by_cases hdg : isDg c = true
        · have hcb : 48 ≤ c.toNat ∧ c.toNat ≤ 57 := by simpa [isDg] using hdg
          have hv1 : vl (s.data.toList.take (pos + 1)) = 10 * vl (s.data.toList.take pos) + (c.toNat - 48) := by rw [hc, vl_snoc]
          have hd1 : (s.data.toList.take (pos + 1)).all isDg = true := by rw [hc, List.all_append, hd]; simp [hdg]
          by_cases hld : 0 < pos ∧ vl (s.data.toList.take pos) = 0
          · have F : Hid _ := nuR_no (bad_lead (l := s.data.toList) (k := pos) hld.1 (by omega) hd hld.2)
            have q0 : (0 : Int) < (pos : Int) := by omega
            have q3 : ((vl (s.data.toList.take pos) : Nat) : Int) = 0 := by omega
            rw [q3]
            have q1 : ¬ ((c.toNat : Int) < 48) := by omega
            have q2 : ¬ ((57 : Int) < (c.toNat : Int)) := by omega
            clear hc hgl hcc hd hv hl h128 hdg hcb hv1 hd1 hld q3
            generalize (c.toNat : Int) = C at *
            go_wp2
            all_goals (refine bodyPost_ret (v := .tuple #[.int .i64 0, .int .i64 11]) (by first | rfl | simp [results, Tryd.results20, go_sem]) rfl ?_; exact ⟨by rw [F.out], iter_below _ _ _⟩)
          · have q1 : ¬ ((c.toNat : Int) < 48) := by omega
            have q2 : ¬ ((57 : Int) < (c.toNat : Int)) := by omega
            obtain ⟨N, hN⟩ : ∃ N : Int, N = ((vl (s.data.toList.take pos) : Nat) : Int) := ⟨_, rfl⟩
            obtain ⟨C, hC⟩ : ∃ C : Int, C = (c.toNat : Int) := ⟨_, rfl⟩
            have e1 : ((vl (s.data.toList.take (pos + 1)) : Nat) : Int) = 10 * N + (C - 48) := by rw [hv1]; omega
            have w1 : IntKind.i64.wrap (10 * N) = 10 * N := by rw [IntKind.wrap_i64]; omega
            have w2 : IntKind.i32.wrap (C - 48) = C - 48 := by rw [IntKind.wrap_i32]; omega
            have w3 : IntKind.i64.wrap (C - 48) = C - 48 := by rw [IntKind.wrap_i64]; omega
            have w4 : IntKind.i64.wrap (10 * N + (C - 48)) = 10 * N + (C - 48) := by rw [IntKind.wrap_i64]; omega
            have hlead : pos = 0 ∨ (0 < pos ∧ ¬ N = 0) := by rcases Nat.eq_zero_or_pos pos with h | h; exact .inl h; exact .inr ⟨h, fun e => hld ⟨h, by omega⟩⟩
            have hl1 : 1 < pos + 1 → s.data.toList.head? ≠ some 48 := by
              intro h1
              by_cases h2 : 1 < pos
              · exact hl h2
              · have e : pos = 1 := by omega
                intro hh
                refine hld ⟨by omega, ?_⟩
                subst e
                rw [← head_take (k := 1) (by omega)] at hh
                obtain ⟨x, hx⟩ : ∃ x, s.data.toList.take 1 = [x] := by
                  have hlen : (s.data.toList.take 1).length = 1 := by rw [List.length_take]; omega
                  exact List.length_eq_one_iff.1 hlen
                rw [hx] at hh ⊢
                have : x = 48 := Option.some.inj hh
                rw [this]; decide
            by_cases hgr : 16777215 < vl (s.data.toList.take (pos + 1))
            · have F : Hid _ := nuR_no (bad_great hgr)
              have q4 : (16777215 : Int) < 10 * N + (C - 48) := by omega
              rw [← hN]
              rw [← hC] at hn q1 q2
              clear hc hgl hcc hd hv hl h128 hdg hcb hv1 hd1 hld hl1 hgr e1 hN hC
              rcases hlead with rfl | ⟨hp0, hN0⟩
              · rw [show ((0 : Nat) : Int) = 0 from rfl] at hn
                go_wp2
                all_goals (refine bodyPost_ret (v := .tuple #[.int .i64 0, .int .i64 11]) (by first | rfl | simp [results, Tryd.results20, go_sem]) rfl ?_; exact ⟨by rw [F.out], iter_below _ _ _⟩)
              · have q0 : (0 : Int) < (pos : Int) := by omega
                have q5 : (N == 0) = false := by simpa using hN0
                clear hN0 hp0
                go_wp2
                all_goals (refine bodyPost_ret (v := .tuple #[.int .i64 0, .int .i64 11]) (by first | rfl | simp [results, Tryd.results20, go_sem]) rfl ?_; exact ⟨by rw [F.out], iter_below _ _ _⟩)
            · have q4 : ¬ (16777215 : Int) < 10 * N + (C - 48) := by omega
              have F : Hid _ := And.intro e1 (And.intro hd1 (And.intro (show vl (s.data.toList.take (pos + 1)) ≤ 16777215 by omega) hl1))
              rw [← hN]
              rw [← hC] at hn q1 q2
              clear hc hgl hcc hd hv hl h128 hdg hcb hv1 hd1 hld hl1 hgr e1 hN hC
              rcases hlead with rfl | ⟨hp0, hN0⟩
              · rw [show ((0 : Nat) : Int) = 0 from rfl] at hn
                go_wp2
                go_roundw
                case rel => exact ⟨_, by rw [F.out.1], by omega, rfl, F.out.2.1, F.out.2.2.1, F.out.2.2.2⟩
                case measure => rw [iterPos_iter, iterPos_iter]; omega
              · have q0 : (0 : Int) < (pos : Int) := by omega
                have q5 : (N == 0) = false := by simpa using hN0
                clear hN0 hp0
                go_wp2
                go_roundw
                case rel => exact ⟨_, by rw [F.out.1], by omega, rfl, F.out.2.1, F.out.2.2.1, F.out.2.2.2⟩
                case measure => rw [iterPos_iter, iterPos_iter]; omega
        · have F : Hid _ := nuR_no (bad_digit (l := s.data.toList) (k := pos) (by omega) (by rw [hgl]; simpa using hdg))
          have q : (c.toNat : Int) < 48 ∨ (57 : Int) < (c.toNat : Int) := by simp [isDg] at hdg; omega
          clear hc hgl hcc hd hv hl h128 hdg
          generalize ((vl (s.data.toList.take pos) : Nat) : Int) = N at *
          generalize (c.toNat : Int) = C at *
          rcases q with q | q
          · have q2 : ¬ (57 : Int) < C := by omega
            go_wp2
            all_goals (refine bodyPost_ret (v := .tuple #[.int .i64 0, .int .i64 11]) (by first | rfl | simp [results, Tryd.results20, go_sem]) rfl ?_; exact ⟨by rw [F.out], iter_below _ _ _⟩)
          · have q2 : ¬ (C < 48) := by omega
            go_wp2
            all_goals (refine bodyPost_ret (v := .tuple #[.int .i64 0, .int .i64 11]) (by first | rfl | simp [results, Tryd.results20, go_sem]) rfl ?_; exact ⟨by rw [F.out], iter_below _ _ _⟩)
      · have hn := run_next_some (P := Tryd.prog) w s pos 0 hlt
        have hge := decode_high s pos (by rw [get_at hlt, hcc]; omega)
        generalize hdc : Utf8.decode s pos = dc at *
        obtain ⟨r, k⟩ := dc
        simp only at hge hn
        have F : Hid _ := nuR_no (bad_digit (l := s.data.toList) (k := pos) (by omega) (by rw [hgl]; simp [isDg]; omega))
        have q1 : ¬ ((r : Int) < 48) := by omega
        have q2 : (57 : Int) < r := by omega
        clear hc hgl hcc hd hv hl hge hdc h128
        generalize (r : Int) = C at *
        generalize ((vl (s.data.toList.take pos) : Nat) : Int) = N at *
        go_wp2
        all_goals (refine bodyPost_ret (v := .tuple #[.int .i64 0, .int .i64 11]) (by first | rfl | simp [results, Tryd.results20, go_sem]) rfl ?_; exact ⟨by rw [F.out], iter_below _ _ _⟩)
    · have hps : pos = s.size := by omega
      have htk : s.data.toList.take pos = s.data.toList := List.take_of_length_le (by omega)
      have hn := run_next_end (P := Tryd.prog) w s pos 0 hlt
      rw [htk] at hd hv ⊢
      by_cases h0 : s.data.toList = []
      · have F : Hid _ := nuR_no (show numOk s.data.toList = false by unfold numOk; rw [h0]; rfl)
        have hse : s = ⟨#[]⟩ := by cases s with | mk d => simp at h0; simp [h0]
        subst hse
        clear hd hv hl hps htk hlt hp h0 hsz hr
        generalize ((vl _ : Nat) : Int) = N at *
        go_wp2
        all_goals (refine bodyPost_ret (v := .tuple #[.int .i64 0, .int .i64 11]) (by first | rfl | simp [results, Tryd.results20, go_sem]) rfl ?_; exact ⟨by rw [F.out], iter_below _ _ _⟩)
      · have F : Hid _ := nuR_ok ((numOk_iff _).2 ⟨⟨h0, hd, fun h => hl (by omega)⟩, hv⟩)
        have hne2 : s.toList.isEmpty = false := by
          rw [ByteArray.toList_eq]
          cases hh : s.data.toList with
          | nil => exact absurd hh h0
          | cons a b => rfl
        clear hd hv hl hps htk hlt hp h0 hsz
        generalize hG : ((vl s.data.toList : Nat) : Int) = N at *
        go_wp2
        refine bodyPost_ret (v := .tuple #[.int .i64 N, .int .i64 0]) (by first | rfl | simp [results, Tryd.results20, go_sem]) rfl ?_
        exact ⟨by rw [F.out], iter_below _ _ _⟩
end Go.Proofs.YtligmiajlbjecaaDoor

