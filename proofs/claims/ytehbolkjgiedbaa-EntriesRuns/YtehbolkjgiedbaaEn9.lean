/- Entries from a place on. -/
import Derived.Test.YtehbolkjgiedbaaEn8
namespace Go.Proofs.Ytehbolkjgiedbaa
open Go.RowKit
set_option linter.unusedVariables false

theorem canE_fits {e : Ent} (h : canE e = true) : I64 e.1 ∧ I64 e.2.1 ∧ e.2.2.length ≤ 140737488351232 := by
  have h1 := canE_term h
  have h2 := canE_len h
  have h3 := canE_kind h
  unfold I64
  omega
theorem take_snoc {α : Type} (l : List α) (k : Nat) (h : k < l.length) : l.take (k + 1) = l.take k ++ [l[k]] := List.take_succ_eq_append_getElem h

set_option maxHeartbeats 600000 in
theorem enSlice_in (g : Nat) (m : Lm) (fr most : Int) (j : Nat) (w : World) (h : Lg w g m) (hw : m.Wf) (hj : j ≤ m.l.length) (hf : fr = (m.fl : Int) + j + 1) (hm : I64 most) :
    Calls Try.prog 11 #[.pointer (some ⟨g, 0, none⟩), .int .i64 fr, .int .i64 most] w fun r w' => ∃ a cap, r = .returned (.slice a ((m.l.drop j).take most.toNat).length cap) ∧ ((m.l.drop j).take most.toNat).length ≤ cap ∧ (a = none → cap = 0) ∧ EArgs w' a ((m.l.drop j).take most.toNat) ∧ Below w.heap.size w w' := by
  have HH : Hid _ := And.intro h hw
  have hpl := hw.place
  have hfu := hw.full
  have fin : ∀ (W : World) (v : Value) (l : List Ent), (∀ e ∈ l, e ∈ m.l) → (∃ V vs, EsOwn W w.heap.size v l V vs) → Below w.heap.size w W → ∃ a cap, Ending.returned v = .returned (.slice a l.length cap) ∧ l.length ≤ cap ∧ (a = none → cap = 0) ∧ EArgs W a l ∧ Below w.heap.size w W := by
    rintro W v l hl ⟨V, vs, ho⟩ hb
    obtain ⟨a, cap, rfl, h1, h2, h3⟩ := ho.args (fun e he => canE_fits (hw.each e (hl e he)))
    exact ⟨a, cap, rfl, h1, h2, h3, hb⟩
  have HF : Hid _ := fin
  have hmem : Hid (∀ k, ∀ e ∈ (m.l.drop j).take k, e ∈ m.l) := by exact (fun k e he => List.mem_of_mem_drop (List.mem_of_mem_take he))
  obtain ⟨D, hD⟩ : ∃ D, D = m.l.drop j := ⟨_, rfl⟩
  have hDl : D.length = m.l.length - j := by rw [hD, List.length_drop]
  rw [← hD] at hmem ⊢
  clear h hw fin
  subst hf
  unfold I64 at hm
  have HD : Hid _ := hD
  clear hD
  go_enter Try.func11, Try.ntmps11
  go_wp2_with fail
  go_loopw [1, 7, 11] (fun fv v iv wr => ∃ (k : Nat) (u : Value), u = v ∧ k ≤ D.length ∧ ((k : Int) ≤ most ∨ k = 0) ∧ iv = .int .i64 k ∧ fv = .int .i64 ((m.fl : Int) + j + 1 + k) ∧ (∃ V vs, EsOwn wr w.heap.size u (D.take k) V vs) ∧ Below w.heap.size w wr) (fun _ _ iv _ => (most - intOf iv).toNat)
  case atStart => exact ⟨0, _, rfl, Nat.zero_le _, .inr rfl, rfl, by go_num, ⟨[], [], EsOwn.nil _ _⟩, Below.refl _ _⟩
  case round =>
    obtain ⟨k, v, rfl, hk, hkm, rfl, rfl, hown, hb⟩ := hrel
    by_cases c1 : (k : Int) < most
    · by_cases c2 : k < D.length
      · have hi : j + k < m.l.length := by omega
        have e1 : (m.fl : Int) + j + 1 + k = (m.fl : Int) + (j + k : Nat) + 1 := by omega
        have HA := enAt_in g m ((m.fl : Int) + j + 1 + k) (j + k) wr (HH.out.1.later hb) HH.out.2 hi e1
        have ed : m.l[j + k] = D[k] := by
          have : D[k]? = m.l[j + k]? := by rw [HD.out, List.getElem?_drop]
          rw [List.getElem?_eq_getElem c2, List.getElem?_eq_getElem hi] at this
          exact (Option.some.inj this).symm
        rw [ed] at HA
        have htk := take_snoc D k c2
        generalize D[k] = en at *
        have H1 : Hid _ := And.intro hown (And.intro hb htk)
        clear hown hb htk e1 ed
        have q7 : (m.fl : Int) + j + 1 + k ≤ 1125899906842624 + 4096 + 4096 + 1 := by omega
        go_wp2_with fail
        refine HA.mono ?_
        rintro e w2 ⟨⟨x, c, rfl, hr, hc, hx, hz⟩, b2⟩
        obtain ⟨⟨V, vs, hown⟩, hb, htk⟩ := H1.out
        have hown2 := hown.later b2
        have b3 := box3_below w2 (.int .i64 en.1) (.int .i64 en.2.1) (.slice x en.2.2.length c) 48
        have hown3 := hown2.later b3
        have B3 : Blk (w2.alloc (.cells #[.int .i64 en.1, .int .i64 en.2.1, .slice x en.2.2.length c] 48)) w2.heap.size 48 [.int .i64 en.1, .int .i64 en.2.1, .slice x en.2.2.length c] := Blk.new' w2 _ _
        obtain ⟨e0, e1, e2⟩ := box3_cells w2 (.int .i64 en.1) (.int .i64 en.2.1) (.slice x en.2.2.length c) 48
        have s3 : (w2.alloc (.cells #[.int .i64 en.1, .int .i64 en.2.1, .slice x en.2.2.length c] 48)).heap.size = w2.heap.size + 1 := by simp
        have hr3 := hr.later b3
        have b4 := box3_below (w2.alloc (.cells #[.int .i64 en.1, .int .i64 en.2.1, .slice x en.2.2.length c] 48)) (.int .i64 en.1) (.int .i64 en.2.1) (.slice x en.2.2.length c) 48
        have B4 : Blk ((w2.alloc (.cells #[.int .i64 en.1, .int .i64 en.2.1, .slice x en.2.2.length c] 48)).alloc (.cells #[.int .i64 en.1, .int .i64 en.2.1, .slice x en.2.2.length c] 48)) (w2.heap.size + 1) 48 [.int .i64 en.1, .int .i64 en.2.1, .slice x en.2.2.length c] := by rw [← s3]; exact Blk.new' _ _ _
        have hown4 := hown3.later b4
        have hr4 := hr3.later b4
        have hfar : ∀ z, x = some z → v.ownBlock ≠ some z.block ∧ z.block < ((w2.alloc (.cells #[.int .i64 en.1, .int .i64 en.2.1, .slice x en.2.2.length c] 48)).alloc (.cells #[.int .i64 en.1, .int .i64 en.2.1, .slice x en.2.2.length c] 48)).heap.size := by
          intro z hz'
          have h1 := hz z hz'
          refine ⟨fun e => ?_, ?_⟩
          · have := (World.ownsRow.lt hown.own _ e).2; omega
          · have := b4.size; have := b3.size; omega
        have bb := below_then (below_then (below_then hb b2) b3) b4
        have hlk : (D.take k).length ≤ 1000000 := by rw [List.length_take]; omega
        have hob := fun q hq => (World.ownsRow.lt hown.own q hq).1
        have H3 : Hid _ := And.intro hown4 (And.intro B4 (And.intro hr4 (And.intro hfar (And.intro bb (And.intro hlk (And.intro htk (And.intro hob bb.size)))))))
        clear hown hown2 hown3 hown4 hb b2 b3 b4 hr hr3 hr4 hz htk H1 HA B3 B4 s3 hfar bb hlk hob
        go_wp2_with (at_builtin; refine wpList_append_ent _ rfl _ _ rfl w.heap.size v (D.take k) V vs rfl H3.out.1 (w2.heap.size + 1) en x c rfl H3.out.2.1 hc H3.out.2.2.1 hx H3.out.2.2.2.1 H3.out.2.2.2.2.2.1 H3.out.2.2.2.2.2.2.2.2 ?_)
        rintro v' w5 V5 vs5 hown5 hg5
        have F : Hid _ := And.intro (show ∃ V vs, EsOwn w5 w.heap.size v' (D.take (k + 1)) V vs by rw [H3.out.2.2.2.2.2.2.1]; exact ⟨V5, vs5, hown5⟩) (H3.out.2.2.2.2.1.grown hg5 H3.out.2.2.2.2.2.2.2.2 H3.out.2.2.2.2.2.2.2.1)
        clear H3 hown5 hg5 e0 e1 e2
        go_wp2
        go_roundw
        case rel => exact ⟨k + 1, _, rfl, by omega, .inl (by omega), by go_num, by go_num, F.out.1, F.out.2⟩
        case measure => simp [intOf]; omega
      · have hk' : k = D.length := by omega
        have hn1 : I64 ((m.fl : Int) + j + 1 + k) := by
          clear hown hb HH HF hmem HD
          unfold I64; omega
        have hn2 : (m.fl : Int) + m.l.length < (m.fl : Int) + j + 1 + k := by omega
        have HA := enAt_no g m ((m.fl : Int) + j + 1 + k) wr (HH.out.1.later hb) HH.out.2 hn1 (.inr hn2)
        have e1 : D.take k = D.take most.toNat := by rw [List.take_of_length_le (by omega), List.take_of_length_le (by omega)]
        rw [e1] at hown
        have H1 : Hid _ := And.intro hown hb
        clear hown hb e1 hn1 hn2 hk' hDl
        go_wp2_with fail
        refine HA.mono ?_
        rintro e w2 ⟨rfl, b2⟩
        obtain ⟨⟨V, vs, hown⟩, hb⟩ := H1.out
        have b3 := box3_below w2 (.int .i64 0) (.int .i64 0) (.slice none 0 0) 48
        have F : Hid _ := And.intro ((hown.later b2).later b3) (below_then (below_then hb b2) b3)
        clear hown b2 b3 hb H1 HA
        go_wp2
        go_ret
        exact HF.out _ _ _ (hmem.out _) ⟨V, vs, F.out.1⟩ F.out.2
    · have e1 : D.take k = D.take most.toNat := by
        by_cases k0 : k = 0
        · subst k0
          have : most.toNat = 0 := by omega
          rw [this]
        · have : most.toNat = k := by omega
          rw [this]
      rw [e1] at hown
      have F : Hid _ := And.intro hown hb
      clear hown hb e1 hDl hk
      go_wp2
      go_ret
      have q := HF.out wr v (D.take most.toNat) (hmem.out _) F.out.1 F.out.2
      rw [List.length_take] at q
      exact q
theorem enSlice_nil (n : Int) (w : World) :
    Calls Try.prog 11 #[.pointer none, .int .i64 n, .int .i64 3] w fun r w' => r = .returned (.slice none 0 0) ∧ Below w.heap.size w w' := by
  have HA := enAt_nil n w
  go_enter Try.func11, Try.ntmps11
  go_wp2_with fail
  refine wp_loop_rounds 1 ?_
  rw [rounds_succ]
  go_wp2_with fail
  refine HA.mono ?_
  rintro e w2 ⟨rfl, b2⟩
  have b3 := box3_below w2 (.int .i64 0) (.int .i64 0) (.slice none 0 0) 48
  have F : Hid _ := below_then b2 b3
  clear b2 b3 HA
  go_wp2
  go_ret
  exact ⟨rfl, F.out⟩
end Go.Proofs.Ytehbolkjgiedbaa
