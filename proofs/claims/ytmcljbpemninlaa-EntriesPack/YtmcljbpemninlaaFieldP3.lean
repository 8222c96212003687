/- Walks of the document's Cut. -/
import Derived.Test.YtmcljbpemninlaaFieldP2
namespace Go.Proofs.Ytmcljbpemninlaa
open Go.RowKit

set_option maxHeartbeats 800000 in
theorem rCut_1 (b off len cap : Nat) (l : List (BitVec 8)) (m E : Nat) (w : World) (hl : l.length = len) (hle : len ≤ cap) (hlen : len ≤ 140737488351232) (hr : Row w (some ⟨b, off, none⟩) l) (hc : ∀ i, i < l.length → w.cell? ⟨b, off + i, none⟩ = some (.int .u8 (bt l i)))
    (hm : (numTo l 0 1).toNat = m) (hm6 : m ≤ 65536) (hE : 1 + m = E) (hEl : E ≤ len) :
    Calls Try.prog 78 #[.slice (some ⟨b, off, none⟩) len cap, .int .i64 1] w fun e w' => ∃ v1 v2, e = .returned (.tuple #[v1, v2, .int .i64 0]) ∧ Own w' w.heap.size v1 ((l.drop 1).take (E - 1)) ∧ Own w' w.heap.size v2 (l.drop E) ∧ Below w.heap.size w w' := by
  have q0 : ¬ (len : Int) < 1 := by omega
  have q1 : (1 : Int) ≤ (E : Int) := by omega
  have q2 : (E : Int) ≤ (cap : Int) := by omega
  have q3 : (E : Int) ≤ (len : Int) := by omega
  have q4 : (1 : Int) + (m : Int) = (E : Int) := by omega
  have q5 : ¬ (len : Int) - 1 < (m : Int) := by omega
  have q6 : ¬ (65536 : Int) < (m : Int) := by omega
  have hm1 : ((l.drop 1).take (E - 1)).length = E - 1 := by simp; omega
  have hm2 : (l.drop E).length = len - E := by simp; omega
  have hr1 : ∀ W, Row W (some ⟨b, off, none⟩) l → Row W (if cap = 1 then some ⟨b, off, none⟩ else some ⟨b, off + 1, none⟩) ((l.drop 1).take (E - 1)) := by
    intro W hW
    split
    · refine .inl (List.eq_nil_of_length_eq_zero (by omega))
    · exact Row.takes (hW.drop 1) _
  have hr2 : ∀ W, Row W (some ⟨b, off, none⟩) l → Row W (if cap = E then some ⟨b, off, none⟩ else some ⟨b, off + E, none⟩) (l.drop E) := by
    intro W hW
    split
    · refine .inl (List.eq_nil_of_length_eq_zero (by omega))
    · exact hW.drop E
  have hn1 : ∀ (A1 : Option Addr), (if cap = 1 then some (⟨b, off, none⟩ : Addr) else some ⟨b, off + 1, none⟩) = A1 → A1 = none → cap - 1 = 0 := by intro A1 h1 h2; subst h1; split at h2 <;> cases h2
  have hn2 : ∀ (A2 : Option Addr), (if cap = E then some (⟨b, off, none⟩ : Addr) else some ⟨b, off + E, none⟩) = A2 → A2 = none → cap - E = 0 := by intro A1 h1 h2; subst h1; split at h2 <;> cases h2
  generalize hA1 : (if cap = 1 then some (⟨b, off, none⟩ : Addr) else some ⟨b, off + 1, none⟩) = A1 at hr1 hn1
  generalize hA2 : (if cap = E then some (⟨b, off, none⟩ : Addr) else some ⟨b, off + E, none⟩) = A2 at hr2 hn2
  have G : Hid (Calls Try.prog 49 #[.slice (some ⟨b, off, none⟩) len cap, .int .i64 0, .int .i64 1] w fun e w' => e = .returned (.tuple #[.int .u64 (m : Int), .int .i64 0]) ∧ w = w') := by
    have := rGet_yes b off len cap l 0 1 w hl (by omega) hc (by omega) (by omega) (by omega)
    rw [hm] at this
    exact this
  have R : Hid _ := And.intro hr1 (And.intro hr2 (And.intro hm1 (And.intro hm2 (And.intro (hn1 A1 rfl) (hn2 A2 rfl)))))
  clear hr1 hr2 hm1 hm2 hn1 hn2 hm hE hc
  go_enter Try.func78, Try.ntmps78
  go_wp2_with (first
    | (go_at_call 49; refine Calls.mono G.out ?_; rintro e w' ⟨rfl, rfl⟩)
    | (at_builtin; refine wpList_append_bytes _ rfl _ _ rfl w.heap.size _ [] rfl (Own.nil _ _) A1 (E - 1) (cap - 1) ((l.drop 1).take (E - 1)) rfl R.out.2.2.1 (R.out.1 w hr) R.out.2.2.2.2.1 (by omega) (by simp; omega) (Nat.le_refl _) ?_))
  intro v1 w1 ho1 hg1
  have hb1 : Below w.heap.size w w1 := (Below.refl _ _).grown hg1 (Nat.le_refl _) (by simp [Value.ownBlock])
  have hr1 := hr.later hb1
  clear hg1
  go_wp2_with (at_builtin; refine wpList_append_bytes _ rfl _ _ rfl w1.heap.size _ [] rfl (Own.nil _ _) A2 (len - E) (cap - E) (l.drop E) rfl R.out.2.2.2.1 (R.out.2.1 w1 hr1) R.out.2.2.2.2.2 (by omega) (by simp; omega) (Nat.le_refl _) ?_)
  intro v2 w2 ho2 hg2
  have hb2 : Below w1.heap.size w1 w2 := (Below.refl _ _).grown hg2 (Nat.le_refl _) (by simp [Value.ownBlock])
  have F : Hid _ := And.intro (ho1.later hb2) (And.intro (Own.lower ho2 hb1.size) (below_then hb1 hb2))
  clear ho2 hg2 ho1 hr1 R G
  go_wp2
  go_ret3
  exact ⟨v1, v2, rfl, (by first | exact F.out.1 | (rw [List.drop_one]; exact F.out.1)), F.out.2.1, F.out.2.2⟩

set_option maxHeartbeats 800000 in
theorem rCut_no1 (a : Option Addr) (len cap : Nat) (l : List (BitVec 8)) (w : World) (hl : l.length = len) (hlen : len ≤ 140737488351232) (hr : Row w a l) (h : cutE l 1 ≠ 0) :
    Calls Try.prog 78 #[.slice a len cap, .int .i64 1] w fun e w' => e = .returned (.tuple #[.slice none 0 0, .slice none 0 0, .int .i64 (cutE l 1)]) ∧ w = w' := by
  have hE : cutE l 1 = if len < 1 then 10 else if 65536 < (numTo l 0 1).toNat then 3 else if len < 1 + (numTo l 0 1).toNat then 10 else 0 := by
    unfold cutE; rw [show lwB 1 = true from rfl, hl]; rfl
  rw [hE] at h ⊢
  clear hE
  by_cases h2 : len < 1
  · have t : (len : Int) < 1 := by omega
    rw [if_pos h2]
    clear h
    go_enter Try.func78, Try.ntmps78
    go_wp2
    go_ret3
    exact ⟨rfl, rfl⟩
  have t2 : ¬ (len : Int) < 1 := by omega
  rw [if_neg h2] at h ⊢
  rcases hr with h0 | ⟨b, off, rfl, hc⟩
  · subst h0; simp at hl; omega
  have G : Hid (Calls Try.prog 49 #[.slice (some ⟨b, off, none⟩) len cap, .int .i64 0, .int .i64 1] w fun e w' => e = .returned (.tuple #[.int .u64 ((numTo l 0 1).toNat : Int), .int .i64 0]) ∧ w = w') :=
    rGet_yes b off len cap l 0 1 w hl (by omega) hc (by omega) (by omega) (by omega)
  generalize (numTo l 0 1).toNat = m at *
  by_cases h3 : 65536 < m
  · have t3 : (65536 : Int) < (m : Int) := by omega
    rw [if_pos h3]
    clear h
    go_enter Try.func78, Try.ntmps78
    go_wp2_with (go_at_call 49; refine Calls.mono G.out ?_; rintro e w' ⟨rfl, rfl⟩)
    go_ret3
    exact ⟨rfl, rfl⟩
  have t3 : ¬ (65536 : Int) < (m : Int) := by omega
  rw [if_neg h3] at h ⊢
  have h4 : len < 1 + m := by
    rcases Nat.lt_or_ge len (1 + m) with h4 | h4
    · exact h4
    · rw [if_neg (by omega)] at h; exact absurd rfl h
  have t4 : (len : Int) - 1 < (m : Int) := by omega
  rw [if_pos h4]
  clear h
  go_enter Try.func78, Try.ntmps78
  go_wp2_with (go_at_call 49; refine Calls.mono G.out ?_; rintro e w' ⟨rfl, rfl⟩)
  go_ret3
  exact ⟨rfl, rfl⟩

set_option maxHeartbeats 800000 in
theorem rCut_2 (b off len cap : Nat) (l : List (BitVec 8)) (m E : Nat) (w : World) (hl : l.length = len) (hle : len ≤ cap) (hlen : len ≤ 140737488351232) (hr : Row w (some ⟨b, off, none⟩) l) (hc : ∀ i, i < l.length → w.cell? ⟨b, off + i, none⟩ = some (.int .u8 (bt l i)))
    (hm : (numTo l 0 2).toNat = m) (hm6 : m ≤ 65536) (hE : 2 + m = E) (hEl : E ≤ len) :
    Calls Try.prog 78 #[.slice (some ⟨b, off, none⟩) len cap, .int .i64 2] w fun e w' => ∃ v1 v2, e = .returned (.tuple #[v1, v2, .int .i64 0]) ∧ Own w' w.heap.size v1 ((l.drop 2).take (E - 2)) ∧ Own w' w.heap.size v2 (l.drop E) ∧ Below w.heap.size w w' := by
  have q0 : ¬ (len : Int) < 2 := by omega
  have q1 : (2 : Int) ≤ (E : Int) := by omega
  have q2 : (E : Int) ≤ (cap : Int) := by omega
  have q3 : (E : Int) ≤ (len : Int) := by omega
  have q4 : (2 : Int) + (m : Int) = (E : Int) := by omega
  have q5 : ¬ (len : Int) - 2 < (m : Int) := by omega
  have q6 : ¬ (65536 : Int) < (m : Int) := by omega
  have hm1 : ((l.drop 2).take (E - 2)).length = E - 2 := by simp; omega
  have hm2 : (l.drop E).length = len - E := by simp; omega
  have hr1 : ∀ W, Row W (some ⟨b, off, none⟩) l → Row W (if cap = 2 then some ⟨b, off, none⟩ else some ⟨b, off + 2, none⟩) ((l.drop 2).take (E - 2)) := by
    intro W hW
    split
    · refine .inl (List.eq_nil_of_length_eq_zero (by omega))
    · exact Row.takes (hW.drop 2) _
  have hr2 : ∀ W, Row W (some ⟨b, off, none⟩) l → Row W (if cap = E then some ⟨b, off, none⟩ else some ⟨b, off + E, none⟩) (l.drop E) := by
    intro W hW
    split
    · refine .inl (List.eq_nil_of_length_eq_zero (by omega))
    · exact hW.drop E
  have hn1 : ∀ (A1 : Option Addr), (if cap = 2 then some (⟨b, off, none⟩ : Addr) else some ⟨b, off + 2, none⟩) = A1 → A1 = none → cap - 2 = 0 := by intro A1 h1 h2; subst h1; split at h2 <;> cases h2
  have hn2 : ∀ (A2 : Option Addr), (if cap = E then some (⟨b, off, none⟩ : Addr) else some ⟨b, off + E, none⟩) = A2 → A2 = none → cap - E = 0 := by intro A1 h1 h2; subst h1; split at h2 <;> cases h2
  generalize hA1 : (if cap = 2 then some (⟨b, off, none⟩ : Addr) else some ⟨b, off + 2, none⟩) = A1 at hr1 hn1
  generalize hA2 : (if cap = E then some (⟨b, off, none⟩ : Addr) else some ⟨b, off + E, none⟩) = A2 at hr2 hn2
  have G : Hid (Calls Try.prog 49 #[.slice (some ⟨b, off, none⟩) len cap, .int .i64 0, .int .i64 2] w fun e w' => e = .returned (.tuple #[.int .u64 (m : Int), .int .i64 0]) ∧ w = w') := by
    have := rGet_yes b off len cap l 0 2 w hl (by omega) hc (by omega) (by omega) (by omega)
    rw [hm] at this
    exact this
  have R : Hid _ := And.intro hr1 (And.intro hr2 (And.intro hm1 (And.intro hm2 (And.intro (hn1 A1 rfl) (hn2 A2 rfl)))))
  clear hr1 hr2 hm1 hm2 hn1 hn2 hm hE hc
  go_enter Try.func78, Try.ntmps78
  go_wp2_with (first
    | (go_at_call 49; refine Calls.mono G.out ?_; rintro e w' ⟨rfl, rfl⟩)
    | (at_builtin; refine wpList_append_bytes _ rfl _ _ rfl w.heap.size _ [] rfl (Own.nil _ _) A1 (E - 2) (cap - 2) ((l.drop 2).take (E - 2)) rfl R.out.2.2.1 (R.out.1 w hr) R.out.2.2.2.2.1 (by omega) (by simp; omega) (Nat.le_refl _) ?_))
  intro v1 w1 ho1 hg1
  have hb1 : Below w.heap.size w w1 := (Below.refl _ _).grown hg1 (Nat.le_refl _) (by simp [Value.ownBlock])
  have hr1 := hr.later hb1
  clear hg1
  go_wp2_with (at_builtin; refine wpList_append_bytes _ rfl _ _ rfl w1.heap.size _ [] rfl (Own.nil _ _) A2 (len - E) (cap - E) (l.drop E) rfl R.out.2.2.2.1 (R.out.2.1 w1 hr1) R.out.2.2.2.2.2 (by omega) (by simp; omega) (Nat.le_refl _) ?_)
  intro v2 w2 ho2 hg2
  have hb2 : Below w1.heap.size w1 w2 := (Below.refl _ _).grown hg2 (Nat.le_refl _) (by simp [Value.ownBlock])
  have F : Hid _ := And.intro (ho1.later hb2) (And.intro (Own.lower ho2 hb1.size) (below_then hb1 hb2))
  clear ho2 hg2 ho1 hr1 R G
  go_wp2
  go_ret3
  exact ⟨v1, v2, rfl, (by first | exact F.out.1 | (rw [List.drop_one]; exact F.out.1)), F.out.2.1, F.out.2.2⟩

set_option maxHeartbeats 800000 in
theorem rCut_no2 (a : Option Addr) (len cap : Nat) (l : List (BitVec 8)) (w : World) (hl : l.length = len) (hlen : len ≤ 140737488351232) (hr : Row w a l) (h : cutE l 2 ≠ 0) :
    Calls Try.prog 78 #[.slice a len cap, .int .i64 2] w fun e w' => e = .returned (.tuple #[.slice none 0 0, .slice none 0 0, .int .i64 (cutE l 2)]) ∧ w = w' := by
  have hE : cutE l 2 = if len < 2 then 10 else if 65536 < (numTo l 0 2).toNat then 3 else if len < 2 + (numTo l 0 2).toNat then 10 else 0 := by
    unfold cutE; rw [show lwB 2 = true from rfl, hl]; rfl
  rw [hE] at h ⊢
  clear hE
  by_cases h2 : len < 2
  · have t : (len : Int) < 2 := by omega
    rw [if_pos h2]
    clear h
    go_enter Try.func78, Try.ntmps78
    go_wp2
    go_ret3
    exact ⟨rfl, rfl⟩
  have t2 : ¬ (len : Int) < 2 := by omega
  rw [if_neg h2] at h ⊢
  rcases hr with h0 | ⟨b, off, rfl, hc⟩
  · subst h0; simp at hl; omega
  have G : Hid (Calls Try.prog 49 #[.slice (some ⟨b, off, none⟩) len cap, .int .i64 0, .int .i64 2] w fun e w' => e = .returned (.tuple #[.int .u64 ((numTo l 0 2).toNat : Int), .int .i64 0]) ∧ w = w') :=
    rGet_yes b off len cap l 0 2 w hl (by omega) hc (by omega) (by omega) (by omega)
  generalize (numTo l 0 2).toNat = m at *
  by_cases h3 : 65536 < m
  · have t3 : (65536 : Int) < (m : Int) := by omega
    rw [if_pos h3]
    clear h
    go_enter Try.func78, Try.ntmps78
    go_wp2_with (go_at_call 49; refine Calls.mono G.out ?_; rintro e w' ⟨rfl, rfl⟩)
    go_ret3
    exact ⟨rfl, rfl⟩
  have t3 : ¬ (65536 : Int) < (m : Int) := by omega
  rw [if_neg h3] at h ⊢
  have h4 : len < 2 + m := by
    rcases Nat.lt_or_ge len (2 + m) with h4 | h4
    · exact h4
    · rw [if_neg (by omega)] at h; exact absurd rfl h
  have t4 : (len : Int) - 2 < (m : Int) := by omega
  rw [if_pos h4]
  clear h
  go_enter Try.func78, Try.ntmps78
  go_wp2_with (go_at_call 49; refine Calls.mono G.out ?_; rintro e w' ⟨rfl, rfl⟩)
  go_ret3
  exact ⟨rfl, rfl⟩

set_option maxHeartbeats 800000 in
theorem rCut_4 (b off len cap : Nat) (l : List (BitVec 8)) (m E : Nat) (w : World) (hl : l.length = len) (hle : len ≤ cap) (hlen : len ≤ 140737488351232) (hr : Row w (some ⟨b, off, none⟩) l) (hc : ∀ i, i < l.length → w.cell? ⟨b, off + i, none⟩ = some (.int .u8 (bt l i)))
    (hm : (numTo l 0 4).toNat = m) (hm6 : m ≤ 65536) (hE : 4 + m = E) (hEl : E ≤ len) :
    Calls Try.prog 78 #[.slice (some ⟨b, off, none⟩) len cap, .int .i64 4] w fun e w' => ∃ v1 v2, e = .returned (.tuple #[v1, v2, .int .i64 0]) ∧ Own w' w.heap.size v1 ((l.drop 4).take (E - 4)) ∧ Own w' w.heap.size v2 (l.drop E) ∧ Below w.heap.size w w' := by
  have q0 : ¬ (len : Int) < 4 := by omega
  have q1 : (4 : Int) ≤ (E : Int) := by omega
  have q2 : (E : Int) ≤ (cap : Int) := by omega
  have q3 : (E : Int) ≤ (len : Int) := by omega
  have q4 : (4 : Int) + (m : Int) = (E : Int) := by omega
  have q5 : ¬ (len : Int) - 4 < (m : Int) := by omega
  have q6 : ¬ (65536 : Int) < (m : Int) := by omega
  have hm1 : ((l.drop 4).take (E - 4)).length = E - 4 := by simp; omega
  have hm2 : (l.drop E).length = len - E := by simp; omega
  have hr1 : ∀ W, Row W (some ⟨b, off, none⟩) l → Row W (if cap = 4 then some ⟨b, off, none⟩ else some ⟨b, off + 4, none⟩) ((l.drop 4).take (E - 4)) := by
    intro W hW
    split
    · refine .inl (List.eq_nil_of_length_eq_zero (by omega))
    · exact Row.takes (hW.drop 4) _
  have hr2 : ∀ W, Row W (some ⟨b, off, none⟩) l → Row W (if cap = E then some ⟨b, off, none⟩ else some ⟨b, off + E, none⟩) (l.drop E) := by
    intro W hW
    split
    · refine .inl (List.eq_nil_of_length_eq_zero (by omega))
    · exact hW.drop E
  have hn1 : ∀ (A1 : Option Addr), (if cap = 4 then some (⟨b, off, none⟩ : Addr) else some ⟨b, off + 4, none⟩) = A1 → A1 = none → cap - 4 = 0 := by intro A1 h1 h2; subst h1; split at h2 <;> cases h2
  have hn2 : ∀ (A2 : Option Addr), (if cap = E then some (⟨b, off, none⟩ : Addr) else some ⟨b, off + E, none⟩) = A2 → A2 = none → cap - E = 0 := by intro A1 h1 h2; subst h1; split at h2 <;> cases h2
  generalize hA1 : (if cap = 4 then some (⟨b, off, none⟩ : Addr) else some ⟨b, off + 4, none⟩) = A1 at hr1 hn1
  generalize hA2 : (if cap = E then some (⟨b, off, none⟩ : Addr) else some ⟨b, off + E, none⟩) = A2 at hr2 hn2
  have G : Hid (Calls Try.prog 49 #[.slice (some ⟨b, off, none⟩) len cap, .int .i64 0, .int .i64 4] w fun e w' => e = .returned (.tuple #[.int .u64 (m : Int), .int .i64 0]) ∧ w = w') := by
    have := rGet_yes b off len cap l 0 4 w hl (by omega) hc (by omega) (by omega) (by omega)
    rw [hm] at this
    exact this
  have R : Hid _ := And.intro hr1 (And.intro hr2 (And.intro hm1 (And.intro hm2 (And.intro (hn1 A1 rfl) (hn2 A2 rfl)))))
  clear hr1 hr2 hm1 hm2 hn1 hn2 hm hE hc
  go_enter Try.func78, Try.ntmps78
  go_wp2_with (first
    | (go_at_call 49; refine Calls.mono G.out ?_; rintro e w' ⟨rfl, rfl⟩)
    | (at_builtin; refine wpList_append_bytes _ rfl _ _ rfl w.heap.size _ [] rfl (Own.nil _ _) A1 (E - 4) (cap - 4) ((l.drop 4).take (E - 4)) rfl R.out.2.2.1 (R.out.1 w hr) R.out.2.2.2.2.1 (by omega) (by simp; omega) (Nat.le_refl _) ?_))
  intro v1 w1 ho1 hg1
  have hb1 : Below w.heap.size w w1 := (Below.refl _ _).grown hg1 (Nat.le_refl _) (by simp [Value.ownBlock])
  have hr1 := hr.later hb1
  clear hg1
  go_wp2_with (at_builtin; refine wpList_append_bytes _ rfl _ _ rfl w1.heap.size _ [] rfl (Own.nil _ _) A2 (len - E) (cap - E) (l.drop E) rfl R.out.2.2.2.1 (R.out.2.1 w1 hr1) R.out.2.2.2.2.2 (by omega) (by simp; omega) (Nat.le_refl _) ?_)
  intro v2 w2 ho2 hg2
  have hb2 : Below w1.heap.size w1 w2 := (Below.refl _ _).grown hg2 (Nat.le_refl _) (by simp [Value.ownBlock])
  have F : Hid _ := And.intro (ho1.later hb2) (And.intro (Own.lower ho2 hb1.size) (below_then hb1 hb2))
  clear ho2 hg2 ho1 hr1 R G
  go_wp2
  go_ret3
  exact ⟨v1, v2, rfl, (by first | exact F.out.1 | (rw [List.drop_one]; exact F.out.1)), F.out.2.1, F.out.2.2⟩

set_option maxHeartbeats 800000 in
theorem rCut_no4 (a : Option Addr) (len cap : Nat) (l : List (BitVec 8)) (w : World) (hl : l.length = len) (hlen : len ≤ 140737488351232) (hr : Row w a l) (h : cutE l 4 ≠ 0) :
    Calls Try.prog 78 #[.slice a len cap, .int .i64 4] w fun e w' => e = .returned (.tuple #[.slice none 0 0, .slice none 0 0, .int .i64 (cutE l 4)]) ∧ w = w' := by
  have hE : cutE l 4 = if len < 4 then 10 else if 65536 < (numTo l 0 4).toNat then 3 else if len < 4 + (numTo l 0 4).toNat then 10 else 0 := by
    unfold cutE; rw [show lwB 4 = true from rfl, hl]; rfl
  rw [hE] at h ⊢
  clear hE
  by_cases h2 : len < 4
  · have t : (len : Int) < 4 := by omega
    rw [if_pos h2]
    clear h
    go_enter Try.func78, Try.ntmps78
    go_wp2
    go_ret3
    exact ⟨rfl, rfl⟩
  have t2 : ¬ (len : Int) < 4 := by omega
  rw [if_neg h2] at h ⊢
  rcases hr with h0 | ⟨b, off, rfl, hc⟩
  · subst h0; simp at hl; omega
  have G : Hid (Calls Try.prog 49 #[.slice (some ⟨b, off, none⟩) len cap, .int .i64 0, .int .i64 4] w fun e w' => e = .returned (.tuple #[.int .u64 ((numTo l 0 4).toNat : Int), .int .i64 0]) ∧ w = w') :=
    rGet_yes b off len cap l 0 4 w hl (by omega) hc (by omega) (by omega) (by omega)
  generalize (numTo l 0 4).toNat = m at *
  by_cases h3 : 65536 < m
  · have t3 : (65536 : Int) < (m : Int) := by omega
    rw [if_pos h3]
    clear h
    go_enter Try.func78, Try.ntmps78
    go_wp2_with (go_at_call 49; refine Calls.mono G.out ?_; rintro e w' ⟨rfl, rfl⟩)
    go_ret3
    exact ⟨rfl, rfl⟩
  have t3 : ¬ (65536 : Int) < (m : Int) := by omega
  rw [if_neg h3] at h ⊢
  have h4 : len < 4 + m := by
    rcases Nat.lt_or_ge len (4 + m) with h4 | h4
    · exact h4
    · rw [if_neg (by omega)] at h; exact absurd rfl h
  have t4 : (len : Int) - 4 < (m : Int) := by omega
  rw [if_pos h4]
  clear h
  go_enter Try.func78, Try.ntmps78
  go_wp2_with (go_at_call 49; refine Calls.mono G.out ?_; rintro e w' ⟨rfl, rfl⟩)
  go_ret3
  exact ⟨rfl, rfl⟩

set_option maxHeartbeats 400000 in
theorem rCut_arg (a : Option Addr) (len cap : Nat) (l : List (BitVec 8)) (size : Int) (w : World) (h1 : lwB size = false) :
    Calls Try.prog 78 #[.slice a len cap, .int .i64 size] w fun e w' => e = .returned (.tuple #[.slice none 0 0, .slice none 0 0, .int .i64 (cutE l size)]) ∧ w = w' := by
  have H : cutE l size = 1 := by unfold cutE; simp [h1]
  rw [H]
  unfold lwB at h1
  rw [decide_eq_false_iff_not] at h1
  have t1 : (size == 1) = false := by simp; omega
  have t2 : (size == 2) = false := by simp; omega
  have t3 : (size == 4) = false := by simp; omega
  have t1' : (size != 1) = true := by simp; omega
  have t2' : (size != 2) = true := by simp; omega
  have t3' : (size != 4) = true := by simp; omega
  clear h1 H
  go_enter Try.func78, Try.ntmps78
  go_wp2
  go_ret3
  exact ⟨rfl, rfl⟩
end Go.Proofs.Ytmcljbpemninlaa
