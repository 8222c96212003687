/- What must come of fixed calls; what a command leaves of keys and fences. -/
import Derived.Test.YtlopkfenbeahgaaXRv20
import Derived.Test.YtlopkfenbeahgaaXRv21
namespace Go.Proofs.Ytlopkfenbeahgaa
open Go.RowKit Go.Shelf
set_option linter.unusedVariables false
set_option linter.unusedSimpArgs false
set_option maxRecDepth 8000

theorem do_chg (m : Rs) (hm : m.Wf) (n : Int) (c : Cm) : Chg m (doM m n c).2.1 := by
  unfold doM
  split
  · exact (Tk.refl m).chg
  · next hn =>
    have hn' : nxB n = true := by cases h : nxB n; exact absurd h hn; rfl
    have hb : 0 ≤ n ∧ n < 16 := of_decide_eq_true hn'
    have hi : n.toNat < 16 := by omega
    split
    · exact reg_chg m hm _ hi c
    · split
      · exact ign_chg m hm _ hi c.nw
      · split
        · split
          · exact (Tk.refl m).chg
          · split
            · exact rsv_chg m _ c
            · split
              · exact rel_chg m _ c
              · split
                · exact clr_chg m hm _
                · exact pre_chg m hm _ c
        · exact (Tk.refl m).chg
theorem cell_later8 {w w' : World} {x : Addr} {v : Value} (h : w.cell? x = some v) (hb : Below w.heap.size w w') : w'.cell? x = some v := by
  have hx : x.block < w.heap.size := by
    rcases Nat.lt_or_ge x.block w.heap.size with h1 | h1
    · exact h1
    · unfold World.cell? at h; rw [Array.getElem?_eq_none h1] at h; simp at h
  rw [World.cell?_of_block (w := w) (hb.block _ hx)]
  exact h
/-- behind a command, some of the nexuses looked at: had tells who had a key, from k on as it was told ahead -/
structure FJ (m m' : Rs) (had : List Bool) (k : Nat) : Prop where
  len : had.length = 16
  done : ∀ n, n < k → n < 16 → (kAt m' n ≠ 0 → fAt m' n = false) ∧ (had.getD n false = true → kAt m' n = 0 → fAt m' n = true) ∧ (had.getD n false = false → kAt m' n = 0 ∧ fAt m' n = false)
  left : ∀ n, k ≤ n → n < 16 → (kAt m' n ≠ 0 → fAt m' n = false) ∧ (had.getD n false = true → kAt m' n = 0 → fAt m' n = true) ∧ (had.getD n false = false → kAt m' n = 0 → fAt m' n = false)
theorem FI.go {m m' : Rs} {had : List Bool} (h : FI m had) (hc : Chg m m') : FJ m m' had 0 := by
  refine ⟨h.len, (fun n hn => by omega), fun n _ hn => ?_⟩
  have h1 := h.has n hn
  have h2 := h.lost n hn
  have h3 := h.never n hn
  rcases hc n with ⟨a, b⟩ | ⟨a, b, c⟩ | ⟨a, b⟩
  · rw [a, b]; exact ⟨h1, h2, fun e _ => (h3 e).2⟩
  · refine ⟨fun e => absurd b e, fun _ _ => c, fun e _ => absurd (h3 e).1 a⟩
  · exact ⟨fun _ => b, fun _ e => absurd e a, fun _ e => absurd e a⟩
theorem FJ.step {m m' : Rs} {had : List Bool} {k : Nat} (h : FJ m m' had k) (hk : k < 16) (b : Bool) (hb : b = (had.getD k false || (kAt m' k != 0))) : FJ m m' (had.set k b) (k + 1) := by
  have hg : ∀ n, (had.set k b).getD n false = if k = n then b else had.getD n false := fun n => by
    rw [getB_set]
    by_cases e : k = n
    · rw [if_pos ⟨e, by rw [h.len]; exact hk⟩, if_pos e]
    · rw [if_neg (fun x => e x.1), if_neg e]
  refine ⟨by rw [List.length_set]; exact h.len, fun n h1 h2 => ?_, fun n h1 h2 => ?_⟩
  · rw [hg n]
    by_cases e : k = n
    · subst e
      rw [if_pos rfl]
      obtain ⟨l1, l2, l3⟩ := h.left k (Nat.le_refl _) hk
      refine ⟨l1, fun hb1 hz => ?_, fun hb0 => ?_⟩
      · rw [hb] at hb1
        have : (kAt m' k != 0) = false := by rw [bne_eq_false_iff_eq]; exact hz
        rw [this, Bool.or_false] at hb1
        exact l2 hb1 hz
      · rw [hb, Bool.or_eq_false_iff] at hb0
        have hz : kAt m' k = 0 := by have := hb0.2; rw [bne_eq_false_iff_eq] at this; exact this
        exact ⟨hz, l3 hb0.1 hz⟩
    · rw [if_neg e]; exact h.done n (by omega) h2
  · rw [hg n, if_neg (by omega)]; exact h.left n (by omega) h2
theorem FJ.end {m m' : Rs} {had : List Bool} (h : FJ m m' had 16) : FI m' had := ⟨h.len, fun n hn => (h.done n hn hn).1, fun n hn => (h.done n hn hn).2.1, fun n hn => (h.done n hn hn).2.2⟩
set_option maxHeartbeats 8000000 in
theorem known13_any (w : World) : Calls Try.prog 9 #[] w fun e w' => e = .returned (.bool true) ∧ Below w.heap.size w w' := by
  have HN : Hid _ := rnew_any w
  go_enter Try.func9, Try.ntmps9
  go_wp2_with fail
  refine (Calls.mono HN.out) ?_
  rintro e w1 ⟨rfl, ok1, b1⟩
  have Z1 : Sep w.heap.size [rv w.heap.size rs0] w1 := (Sep.nil (w := w)).fresh b1 ok1 (fun k hk => by rcases hk with hk | hk; simp only [rv, List.mem_singleton] at hk; omega; cases hk)
  have H1 : Hid _ := And.intro Z1 b1
  clear HN ok1 Z1 b1
  obtain ⟨g, hg⟩ : ∃ g, w.heap.size = g := ⟨_, rfl⟩
  rw [hg] at H1
  rw [hg]
  have Hg : Hid _ := hg
  clear hg
  have HD1 : Hid (Calls Try.prog 7 #[.pointer (some ⟨g, 0, none⟩), .int .i64 1, .agg #[.int .i64 0, .int .u64 0, .int .u64 5, .int .i64 0]] w1 (Does w1 g kA1)) := doN_any g rs0 1 ⟨0, 0, 5, 0⟩ w1 H1.out.1.head (by decide)
  go_wp2_with fail
  refine (Calls.mono HD1.out) ?_
  rintro e w2 ⟨v2, rfl, -, t2⟩
  have H2 : Hid _ := And.intro (H1.out.1.step (t2.fin (m := rs0))) (H1.out.2.trans (H1.out.1.below (t2.fin (m := rs0))))
  clear HD1 H1 t2
  have HD2 : Hid (Calls Try.prog 7 #[.pointer (some ⟨g, 0, none⟩), .int .i64 2, .agg #[.int .i64 0, .int .u64 0, .int .u64 6, .int .i64 0]] w2 (Does w2 g kA2)) := doN_any g kA1.2.1 2 ⟨0, 0, 6, 0⟩ w2 H2.out.1.head (by decide)
  go_wp2_with fail
  refine (Calls.mono HD2.out) ?_
  rintro e w3 ⟨v3, rfl, -, t3⟩
  have H3 : Hid _ := And.intro (H2.out.1.step (t3.fin (m := kA1.2.1))) (H2.out.2.trans (H2.out.1.below (t3.fin (m := kA1.2.1))))
  clear HD2 H2 t3
  have HD3 : Hid (Calls Try.prog 7 #[.pointer (some ⟨g, 0, none⟩), .int .i64 1, .agg #[.int .i64 1, .int .u64 5, .int .u64 0, .int .i64 5]] w3 (Does w3 g kA3)) := doN_any g kA2.2.1 1 ⟨1, 5, 0, 5⟩ w3 H3.out.1.head (by decide)
  go_wp2_with fail
  refine (Calls.mono HD3.out) ?_
  rintro e w4 ⟨v4, rfl, n4, t4⟩
  have Z4 := H3.out.1.step (t4.fin (m := kA2.2.1))
  have B4 := H3.out.2.trans (H3.out.1.below (t4.fin (m := kA2.2.1)))
  rw [show rpV kA3.1 = .agg #[.int .i64 0, .int .i64 0, .int .i64 0, .int .i64 0, .slice none 0 0] by rw [kA3_1]; rfl]
  have b5 : Below w4.heap.size w4 (w4.alloc (.cells #[.int .i64 0, .int .i64 0, .int .i64 0, .int .i64 0, .slice none 0 0] 28)) := (Below.refl _ _).alloc (Nat.le_refl _) _
  have Ba := Blk.new' w4 28 [.int .i64 0, .int .i64 0, .int .i64 0, .int .i64 0, .slice none 0 0]
  obtain ⟨va4, vc4, hv4, -, -⟩ := n4.own.open
  have hgl := Z4.head.holds.1.lt
  have H5 : Hid (Sep g [rv g kA3.2.1] (w4.alloc (.cells #[.int .i64 0, .int .i64 0, .int .i64 0, .int .i64 0, .slice none 0 0] 28)) ∧ Below g w (w4.alloc (.cells #[.int .i64 0, .int .i64 0, .int .i64 0, .int .i64 0, .slice none 0 0] 28)) ∧ Blk (w4.alloc (.cells #[.int .i64 0, .int .i64 0, .int .i64 0, .int .i64 0, .slice none 0 0] 28)) w4.heap.size 28 [.int .i64 0, .int .i64 0, .int .i64 0, .int .i64 0, .slice none 0 0] ∧ g < w4.heap.size) := ⟨Z4.later b5, B4.trans (b5.mono (Nat.le_of_lt hgl)), Ba, hgl⟩
  clear HD3 H3 t4 n4 Z4 B4 b5 Ba hgl
  rw [hv4]
  go_upto_region 7 with fail
  obtain ⟨ba, hba⟩ : ∃ ba, w4.heap.size = ba := ⟨_, rfl⟩
  rw [hba] at H5 ⊢
  clear hba
  generalize w4.alloc (.cells #[.int .i64 0, .int .i64 0, .int .i64 0, .int .i64 0, .slice none 0 0] 28) = w5 at *
  have HD4 : Hid (Calls Try.prog 7 #[.pointer (some ⟨g, 0, none⟩), .int .i64 2, .agg #[.int .i64 4, .int .u64 6, .int .u64 5, .int .i64 5]] w5 (Does w5 g kA4)) := doN_any g kA3.2.1 2 ⟨4, 6, 5, 5⟩ w5 H5.out.1.head (by decide)
  go_wp2_with fail
  refine (Calls.mono HD4.out) ?_
  rintro e w6 ⟨v6, rfl, n6, t6⟩
  have Z6 := H5.out.1.step (t6.fin (m := kA3.2.1))
  have B6 := H5.out.2.1.trans (H5.out.1.below (t6.fin (m := kA3.2.1)))
  have Ba6 := t6.blk H5.out.2.2.1 (by have := H5.out.2.2.2; omega)
  rw [show rpV kA4.1 = .agg #[.int .i64 0, .int .i64 0, .int .i64 0, .int .i64 0, .slice none 0 0] by rw [kA4_1]; rfl]
  have b7 : Below w6.heap.size w6 (w6.alloc (.cells #[.int .i64 0, .int .i64 0, .int .i64 0, .int .i64 0, .slice none 0 0] 28)) := (Below.refl _ _).alloc (Nat.le_refl _) _
  have Bb := Blk.new' w6 28 [.int .i64 0, .int .i64 0, .int .i64 0, .int .i64 0, .slice none 0 0]
  have hn7 := n6.own.later b7
  rw [kA4_n] at hn7
  obtain ⟨va6, vc6, hv6, hvc6, hcs⟩ := hn7.open
  obtain ⟨nb, hnb, -, e0, e1⟩ := hcs 0 (by decide)
  subst hnb
  have hgl := Z6.head.holds.1.lt
  have Z7 := Z6.later b7
  have HHo : Hid _ := holder_any g kA4.2.1 _ Z7.head
  rw [kA4_h] at HHo
  have H7 : Hid _ := And.intro Z7 (And.intro (B6.trans (b7.mono (Nat.le_of_lt hgl))) (And.intro (Ba6.laterB b7) (And.intro Bb (And.intro e0 e1))))
  clear HD4 H5 t6 n6 Z6 B6 Ba6 b7 Bb hn7 hcs e0 e1 hgl Z7
  rw [hv6]
  clear hv6 hv4
  go_upto_region 8 with fail
  obtain ⟨bb, hbb⟩ : ∃ bb, w6.heap.size = bb := ⟨_, rfl⟩
  rw [hbb] at H7 ⊢
  clear hbb
  generalize w6.alloc (.cells #[.int .i64 0, .int .i64 0, .int .i64 0, .int .i64 0, .slice none 0 0] 28) = w7 at *
  go_wp2_with fail
  refine (Calls.mono HHo.out) ?_
  rintro e w8 ⟨rfl, b8⟩
  have Z8 := H7.out.1.later b8
  have ya := blk_at (H7.out.2.2.1.laterB b8) 0
  have yb := blk_at (H7.out.2.2.2.1.laterB b8) 0
  have e0 := cell_later8 H7.out.2.2.2.2.1 b8
  have e1 := cell_later8 H7.out.2.2.2.2.2 b8
  simp only [List.getElem?_cons_zero, List.getElem?_cons_succ, List.getElem_cons_zero, Nat.zero_mul, Nat.zero_add] at ya yb e0 e1
  have M1 : Hid _ := may_any g kA4.2.1 1 2 w8 Z8.head
  have M2 : Hid _ := may_any g kA4.2.1 1 1 w8 Z8.head
  have M3 : Hid _ := fenM_any g kA4.2.1 1 w8 Z8.head
  have M4 : Hid _ := gen_any g kA4.2.1 w8 Z8.head
  rw [kA4_w] at M1
  rw [kA4_r] at M2
  rw [kA4_f] at M3
  rw [kA4_g] at M4
  have F0 : Below g w w8 := H7.out.2.1.trans (b8.mono (Nat.le_of_lt H7.out.1.head.holds.1.lt))
  rw [← Hg.out] at F0
  have F : Hid _ := And.intro F0 trivial
  clear F0
  clear HHo H7 b8 Z8
  simp only [List.length_cons, List.length_nil, Nat.zero_add] at *
  go_wp2_with fail
  refine (Calls.mono M1.out) ?_
  rintro e _ ⟨rfl, rfl⟩
  go_wp2_with fail
  refine (Calls.mono M2.out) ?_
  rintro e _ ⟨rfl, rfl⟩
  go_wp2_with fail
  refine (Calls.mono M3.out) ?_
  rintro e _ ⟨rfl, rfl⟩
  go_wp2_with fail
  refine (Calls.mono M4.out) ?_
  rintro e _ ⟨rfl, rfl⟩
  go_wp2
  go_ret
  exact ⟨rfl, F.out.1⟩
end Go.Proofs.Ytlopkfenbeahgaa

