/- The walk of SenseInquiry. -/
import Derived.Test.YtncplnejoppekaaDoorSi4
namespace Go.Proofs.YtncplnejoppekaaDoor
open Go.RowKit
set_option linter.unusedVariables false
set_option linter.unusedSimpArgs false
set_option maxRecDepth 8000

theorem ow_str16 {w : World} {base : Nat} {v : Value} {l : List (BitVec 8)} (h : Own w base v l) : ∃ a cap, v = .slice a l.length cap ∧ l.length ≤ cap ∧ Row w a l ∧ ∀ X, Below w.heap.size w X → (convert 22 9 (.slice a l.length cap)).run Tryd.prog X = .ok (.string (str l)) X := by
  obtain ⟨a, cap, hv, hle, _, hr, _, _⟩ := h.open
  exact ⟨a, cap, hv, hle, hr, fun X hX => (hr.later hX).str _ _ rfl⟩
theorem own_past16 {w w' : World} {base b0 : Nat} {v u : Value} {l m : List (BitVec 8)} (h : Own w base v l) (hu : Own w b0 u m) (hlt : ∀ k, u.ownBlock = some k → k < base) (hg : w.grownBy w' u.ownBlock) : Own w' base v l := h.same (fun k hk => hg.block k (World.ownsRow.lt h k hk).2 (fun e => by have := hlt k e.symm; have := (World.ownsRow.lt h k hk).1; omega))
/-- how long a page is, and where it says so -/
theorem inq_fact (vit : Bool) (pg lun : Int) (h : (inqR vit pg lun).2 = 0) : (inqR vit pg lun).1.length ≤ 300 ∧ 5 ≤ (inqR vit pg lun).1.length ∧ (vit = true → bt (inqR vit pg lun).1 3 = ((inqR vit pg lun).1.length : Int) - 4) ∧ (vit = false → bt (inqR vit pg lun).1 4 = ((inqR vit pg lun).1.length : Int) - 5) := by
  unfold inqR at *
  split at h
  · rename_i hl
    rw [if_pos hl]
    split at h
    · rename_i hv
      rw [if_pos hv]
      split at h
      · rename_i h0
        rw [if_pos h0, pgB_C]
        exact ⟨by decide, by decide, fun _ => by decide, fun e => by rw [e] at hv; cases hv⟩
      · rename_i h0
        rw [if_neg h0]
        split at h
        · rename_i h1
          rw [if_pos h1, pgB_D]
          exact ⟨(by decide : 15 ≤ 300), (by decide : 5 ≤ 15), fun _ => rfl, fun e => by rw [e] at hv; cases hv⟩
        · rename_i h1
          rw [if_neg h1]
          split at h
          · rename_i h2
            rw [if_pos h2, pgB_E]
            exact ⟨(by decide : 19 ≤ 300), (by decide : 5 ≤ 19), fun _ => rfl, fun e => by rw [e] at hv; cases hv⟩
          · cases h
    · rename_i hv
      rw [if_neg hv]
      split at h
      · rename_i h0
        rw [if_pos h0, hasB_A]
        exact ⟨(by decide : 36 ≤ 300), (by decide : 5 ≤ 36), fun e => absurd e hv, fun _ => rfl⟩
      · cases h
  · cases h
set_option maxHeartbeats 8000000 in
theorem senseInquiry_walk (vit : Bool) (pg lun : Int) (w : World) (hT : PowS w ∧ PgT w) (_ : -9223372036854775808 ≤ pg ∧ pg ≤ 9223372036854775807) (_ : -9223372036854775808 ≤ lun ∧ lun ≤ 9223372036854775807) : Calls Tryd.prog 3 #[.bool vit, .int .i64 pg, .int .i64 lun] w fun e w' => e = .returned (.bool true) ∧ Below w.heap.size w w' := by
  have HI0 := fun (W : World) (hW : Below w.heap.size w W) => tInq_any vit pg lun W (hT.1.later hW) (hT.2.later hW)
  have HR0 := fun (W : World) => rInq_any vit pg lun W
  have hf := inq_fact vit pg lun
  generalize inqR vit pg lun = R at *
  obtain ⟨L, E⟩ := R
  simp only at HI0 HR0 hf
  have HI : Hid (∀ W : World, Below w.heap.size w W → Calls Tryd.prog 4 #[.bool vit, .int .i64 pg, .int .i64 lun] W fun e w' => ∃ v, e = .returned (.tuple #[v, .int .i64 E]) ∧ Own w' W.heap.size v L ∧ Below W.heap.size W w') := HI0
  have HR : Hid (∀ W : World, Calls Tryd.prog 5 #[.bool vit, .int .i64 pg, .int .i64 lun] W fun e w' => ∃ v, e = .returned (.tuple #[v, .int .i64 E]) ∧ Own w' W.heap.size v L ∧ Below W.heap.size W w') := HR0
  have HF : Hid _ := hf
  clear HI0 HR0 hf hT
  go_enter Tryd.func3, Tryd.ntmps3
  go_wp2_with fail
  refine (Calls.mono (HI.out w (Below.refl _ _))) ?_
  rintro e w1 ⟨z0, rfl, o0, b0⟩
  have H1 : Hid _ := And.intro o0 b0
  clear o0 b0
  go_wp2_with fail
  refine (Calls.mono (HR.out w1)) ?_
  rintro e w2 ⟨z1, rfl, o1, b1⟩
  obtain ⟨a0, c0, rfl, hle0, hr0, hs0⟩ := ow_str16 (H1.out.1.later b1)
  obtain ⟨a1, c1, rfl, hle1, hr1, hs1⟩ := ow_str16 o1
  have H2 : Hid _ := And.intro (below_then H1.out.2 b1) (And.intro (H1.out.1.later b1) (And.intro o1 H1.out.1))
  have t0 := hs0 w2 (Below.refl _ _)
  have t1 := hs1 w2 (Below.refl _ _)
  obtain ⟨len, hlen⟩ : ∃ n, n = L.length := ⟨_, rfl⟩
  rw [← hlen] at t0 t1 ⊢
  have HL : Hid _ := hlen
  clear o1 b1 hle0 hle1 hr0 hr1 hs0 hs1 H1 HR hlen
  generalize str L = S1 at t0 t1
  go_upto_region 5 with fail
  clear t0 t1
  by_cases hE : E = 0
  · subst hE
    obtain ⟨q300, q5, q3, q4⟩ := HF.out rfl
    rw [← HL.out] at q300 q5 q3 q4
    have HQ : Hid _ := And.intro q300 (And.intro q5 (And.intro q3 q4))
    clear q300 q5 q3 q4 HF
    have HS0 := Spoil_own _ _ _ w2 H2.out.2.1 (by have := HQ.out.1; have := HL.out; omega)
    rw [← HL.out] at HS0
    have HS : Hid _ := HS0
    clear HS0
    go_wp2_with fail
    refine (Calls.mono (HS.out)) ?_
    rintro e w3 ⟨rfl, g3⟩
    clear HS
    have hb3 : Below w.heap.size w w3 := H2.out.1.grown g3 H2.out.1.size (by have h := own_block H2.out.2.1; rw [← HL.out] at h; exact h)
    have o13 := own_past16 H2.out.2.2.1 H2.out.2.1 (fun k hk => (World.ownsRow.lt H2.out.2.2.2 k hk).2) (by rw [← HL.out]; exact g3)
    have H3 : Hid _ := And.intro hb3 o13
    clear hb3 o13 g3 H2
    go_wp2_with fail
    refine (Calls.mono (HI.out w3 H3.out.1)) ?_
    rintro e w4 ⟨z2, rfl, o2, b2⟩
    obtain ⟨a2, c2, rfl, hle2, hr2, hs2⟩ := ow_str16 o2
    have o14 := H3.out.2.later b2
    obtain ⟨a1', c1', e1', -, hr1, hs1⟩ := ow_str16 o14
    rw [← HL.out] at e1'
    simp only [Value.slice.injEq, true_and] at e1'
    obtain ⟨rfl, rfl⟩ := e1'
    have t1 := hs1 w4 (Below.refl _ _)
    have t2 := hs2 w4 (Below.refl _ _)
    rw [← HL.out] at t1 t2 hle2 ⊢
    have H4 : Hid _ := And.intro (below_then H3.out.1 b2) (And.intro hr2 hle2)
    clear o2 b2 hle2 hr2 hs2 o14 hr1 hs1 H3 HI
    generalize str L = S1 at t1 t2
    have q5 : ¬ ((len : Int) < 4) := by have := HQ.out.2.1; omega
    go_upto_region 11 with fail
    clear t1 t2 q5
    have h5 := HQ.out.2.1
    have hLl := HL.out
    obtain ⟨b, off, rfl, hc⟩ : ∃ b off, a2 = some ⟨b, off, none⟩ ∧ ∀ i, i < L.length → w4.cell? ⟨b, off + i, none⟩ = some (.int .u8 (bt L i)) := by
      rcases H4.out.2.1 with h | ⟨b, off, h, hc⟩
      · rw [h] at hLl; simp at hLl; omega
      · exact ⟨b, off, h, hc⟩
    have wk : IntKind.i64.wrap ((len : Int) - 4) = (len : Int) - 4 := by rw [IntKind.wrap_i64]; have := HQ.out.1; omega
    have wk5 : IntKind.i64.wrap ((len : Int) - 5) = (len : Int) - 5 := by rw [IntKind.wrap_i64]; have := HQ.out.1; omega
    have c4 : (4 : Int) < (len : Int) := by omega
    have c3 : (3 : Int) < (len : Int) := by omega
    have n4 : 4 < len := by omega
    have n3 : 3 < len := by omega
    cases vit
    · have y := hc 4 (by omega)
      rw [HQ.out.2.2.2 rfl] at y
      clear hc hLl h5
      go_wp2_with fail
      refine (Calls.mono (known16_any w4)) ?_
      rintro e w9 ⟨rfl, b9⟩
      have F : Hid _ := below_then H4.out.1 b9
      clear b9 y
      go_wp2
      go_ret
      exact ⟨rfl, F.out⟩
    · have y := hc 3 (by omega)
      rw [HQ.out.2.2.1 rfl] at y
      clear hc hLl h5
      go_wp2_with fail
      refine (Calls.mono (known16_any w4)) ?_
      rintro e w9 ⟨rfl, b9⟩
      have F : Hid _ := below_then H4.out.1 b9
      clear b9 y
      go_wp2
      go_ret
      exact ⟨rfl, F.out⟩
  · have dE : (E != 0) = true := by simpa using hE
    clear hE HF HI
    go_wp2_with fail
    refine (Calls.mono (known16_any w2)) ?_
    rintro e w3 ⟨rfl, b3⟩
    have F : Hid _ := below_then H2.out.1 b3
    clear b3
    go_wp2
    go_ret
    exact ⟨rfl, F.out⟩
end Go.Proofs.YtncplnejoppekaaDoor
