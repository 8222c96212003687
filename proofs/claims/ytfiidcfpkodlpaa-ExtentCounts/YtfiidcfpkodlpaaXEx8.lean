/- What must come of fixed calls of an image. -/
import Derived.Test.YtfiidcfpkodlpaaXEx7
namespace Go.Proofs.Ytfiidcfpkodlpaa
open Go.RowKit Go.MapKept Go.ChangeMaps Go.Shelf
set_option linter.unusedVariables false
set_option maxRecDepth 8000

/-- the images of the document's example -/
def km0 : Im := ⟨4, fun _ => none⟩
def km1 : Im := wrN km0 1 (List.replicate 128 1#8) 2
def km2 : Im := unN km1 2 1
theorem km0_wf : km0.Wf := ⟨by decide, by decide, fun k l h => by cases h⟩
theorem km1_wf : km1.Wf := wrN_wf km0_wf 1 _ 2 (by decide) (by rw [List.length_replicate]; decide)
theorem km2_wf : km2.Wf := unN_wf km1_wf 2 1 (by decide)
theorem km1_used : km1.used = 2 := by decide
theorem km2_read : rdN km2 2 1 = List.replicate 64 0#8 := by decide
def six : List (BitVec 8) := [0#8, 4#8, 0#8, 1#8, 0#8, 1#8]
def on64 : List (BitVec 8) := List.replicate 64 1#8
theorem km2_bytes : bytesM km2 = six ++ on64 := by decide
theorem str_size (l : List (BitVec 8)) : (str l).size = l.length := by unfold str; rw [strOfNums_size, List.length_map]
theorem six_str : (Value.string { data := #[0, 4, 0, 1, 0, 1] }) = .string (str six) := by kernel_rfl
theorem str_app (a b : List (BitVec 8)) : str a ++ str b = str (a ++ b) := by
  unfold str strOfNums
  apply ByteArray.ext
  simp
theorem im_W {g b B : Nat} {m : Im} (h : B ≤ b) : ∀ k ∈ (im g b m).W, B ≤ k := fun k hk => by
  have : k = b := by simpa [im] using hk
  omega
theorem imBytes_str (g b : Nat) (m : Im) (w : World) (h : (im g b m).Ok w) (hw : m.Wf) (L : List (BitVec 8)) (hL : bytesM m = L) :
    Calls Try.prog 12 #[.pointer (some ⟨g, 0, none⟩)] w fun e w' => ∃ a len cap, e = .returned (.slice a len cap) ∧ (∀ X, Below w'.heap.size w' X → (convert 34 9 (.slice a len cap)).run Try.prog X = .ok (.string (str L)) X) ∧ Below w'.heap.size w' w' ∧ Below w.heap.size w w' := by
  refine (imBytes_any g b m w h hw).mono ?_
  rintro e w' ⟨v, rfl, ho, hb⟩
  obtain ⟨a, cap, rfl, _, _, hr, _, _⟩ := ho.open
  rw [hL] at hr
  exact ⟨a, _, cap, rfl, fun X hX => (hr.later hX).str _ _ (by rw [hL]), Below.refl _ _, hb⟩
theorem ones_str64 (w : World) :
    Calls Try.prog 20 #[.int .i64 64] w fun e w' => ∃ a len cap, e = .returned (.slice a len cap) ∧ (∀ X, Below w'.heap.size w' X → (convert 34 9 (.slice a len cap)).run Try.prog X = .ok (.string (str on64)) X) ∧ Below w'.heap.size w' w' ∧ Below w.heap.size w w' := by
  refine (ones5_any 64 (by omega) w).mono ?_
  rintro e w' ⟨v, rfl, ho, hb⟩
  obtain ⟨a, cap, rfl, _, _, hr, _, _⟩ := ho.open
  exact ⟨a, _, cap, rfl, fun X hX => (hr.later hX).str _ _ rfl, Below.refl _ _, hb⟩
theorem ones_str (n : Nat) (hn : n ≤ 1000000) (w : World) :
    Calls Try.prog 20 #[.int .i64 n] w fun e w' => ∃ a len cap, e = .returned (.slice a len cap) ∧ (∀ X, Below w'.heap.size w' X → (convert 34 9 (.slice a len cap)).run Try.prog X = .ok (.string (str (List.replicate n 1#8))) X) ∧ Below w'.heap.size w' w' ∧ Below w.heap.size w w' := by
  refine (ones5_any n hn w).mono ?_
  rintro e w' ⟨v, rfl, ho, hb⟩
  obtain ⟨a, cap, rfl, _, _, hr, _, _⟩ := ho.open
  exact ⟨a, _, cap, rfl, fun X hX => (hr.later hX).str _ _ rfl, Below.refl _ _, hb⟩

set_option maxHeartbeats 4000000 in
theorem known5_any (w : World) :
    Calls Try.prog 11 #[] w fun e w' => e = .returned (.bool true) ∧ Below w.heap.size w w' := by
  go_enter Try.func11, Try.ntmps11
  go_wp2_with fail
  refine (imNew_yes 4 w (by omega)).mono ?_
  rintro e w1 ⟨g, b, rfl, hg, hb, ok1, b1⟩
  go_wp2_with fail
  refine (ones5_any 128 (by omega) w1).mono ?_
  rintro e w2 ⟨v2, rfl, o2, b2⟩
  have ok2 := ok1.later b2
  obtain ⟨m2, c2, rfl, hm2, hm2'⟩ := o2.some (by rw [List.length_replicate]; omega)
  obtain ⟨a2, cap2, hv2, hle2, _, r2, -, -⟩ := o2.open
  simp only [Value.slice.injEq] at hv2
  obtain ⟨rfl, -, rfl⟩ := hv2
  rw [List.length_replicate] at hle2
  have hbl : b < w1.heap.size := ok1.lt b (.inl (by simp [im]))
  have HW : Hid _ := imWrite_yes g b km0 1 2 (some ⟨m2, 0, none⟩) 128 c2 (List.replicate 128 1#8) w2 ok2 km0_wf (by decide) rfl (by rw [List.length_replicate]) hle2 r2 (fun y hy => by cases hy; show m2 ≠ b; omega)
  have bb2 := below_then b1 b2
  have H2 : Hid _ := And.intro bb2 (And.intro hg hb)
  rw [List.length_replicate]
  clear ok1 ok2 o2 r2 b1 b2 hm2' hbl bb2 hg hb
  go_wp2_with fail
  refine (Calls.mono HW.out) ?_
  rintro e w3 ⟨rfl, st3⟩
  have e1 : wrN km0 1 (List.replicate 128 1#8) 2 = km1 := rfl
  rw [e1] at st3
  have b3 : Below w.heap.size w w3 := H2.out.1.trans (st3.below w.heap.size H2.out.1.size (im_W H2.out.2.2))
  have HU : Hid _ := imUsed_any g b km1 w3 st3.ok km1_wf
  rw [km1_used] at HU
  have HM : Hid _ := imUnmap_yes g b km1 2 1 w3 st3.ok km1_wf (by decide)
  have H3 : Hid _ := And.intro b3 (And.intro H2.out.2.1 H2.out.2.2)
  clear st3 b3 e1 HW H2
  go_wp2_with fail
  refine (Calls.mono HU.out) ?_
  rintro e w3' ⟨rfl, rfl⟩
  go_wp2_with fail
  refine (Calls.mono HM.out) ?_
  rintro e w4 ⟨rfl, st4⟩
  have e2 : unN km1 2 1 = km2 := rfl
  rw [e2] at st4
  have b4 : Below w.heap.size w w4 := H3.out.1.trans (st4.below w.heap.size H3.out.1.size (im_W H3.out.2.2))
  have HR : Hid _ := imRead_yes g b km2 2 1 w4 st4.ok km2_wf (by decide)
  rw [km2_read] at HR
  have H4 : Hid _ := And.intro b4 st4.ok
  clear st4 b4 e2 HU HM H3
  go_wp2_with fail
  refine (Calls.mono HR.out) ?_
  rintro e w5 ⟨v5, rfl, o5, b5⟩
  have hc5 : ∀ X, Below w5.heap.size w5 X → (convert 34 9 v5).run Try.prog X = .ok (.string (str (List.replicate 64 0#8))) X := by
    obtain ⟨a, cap, rfl, _, _, hr, _, _⟩ := o5.open
    exact fun X hX => (hr.later hX).str _ _ rfl
  have ok5 := H4.out.2.later b5
  have bb5 := below_then H4.out.1 b5
  obtain ⟨a5, c5, rfl, -, -, -⟩ := o5.open
  rw [List.length_replicate] at hc5 ⊢
  have H5 : Hid _ := And.intro ok5 bb5
  clear ok5 bb5 b5 o5 HR H4
  go_wp2_with fail
  have Sd : Below w5.heap.size w5 w5.drew := (Below.refl _ _).drew
  have hmk := make_bytes 64 64 rfl (by omega)
  refine wp_region_held_drew (S := fun W => Below w5.heap.size w5 W) (by kernel_rfl) Sd (fun hS => ?_)
  have B0 : Below w5.heap.size w5 w5.drew := Sd
  refine any_take (i := 0) (v := ?_) rfl (by kernel_rfl) (by kernel_rfl) (by kernel_rfl) (by exact fun _ _ _ h => h) (by rfl) ?_ hS ?_
  rotate_left
  · ((intro w hSw; (try dsimp only at hSw); go_simp) <;> with_reducible rfl)
  (try simp only [Act.put, List.setIfInBounds_toArray, List.set_cons_zero, List.set_cons_succ])
  refine any_take (i := 1) (v := ?_) rfl (by kernel_rfl) (by kernel_rfl) (by kernel_rfl) (by exact fun _ _ _ h => h) (by rfl) ?_ hS ?_
  rotate_left
  · ((intro w hSw; (try dsimp only at hSw); go_simp) <;> with_reducible rfl)
  (try simp only [Act.put, List.setIfInBounds_toArray, List.set_cons_zero, List.set_cons_succ])
  refine any_take (i := 2) (v := ?_) rfl (by kernel_rfl) (by kernel_rfl) (by kernel_rfl) (by exact fun _ _ _ h => h) (by rfl) ?_ hS ?_
  rotate_left
  · ((intro w hSw; (try dsimp only at hSw); go_simp) <;> with_reducible rfl)
  (try simp only [Act.put, List.setIfInBounds_toArray, List.set_cons_zero, List.set_cons_succ])
  refine any_take (i := 3) (v := ?_) rfl (by kernel_rfl) (by kernel_rfl) (by kernel_rfl) (by exact fun _ _ _ h => h) (by rfl) ?_ hS ?_
  rotate_left
  · ((intro w hSw; (try dsimp only at hSw); go_simp) <;> with_reducible rfl)
  (try simp only [Act.put, List.setIfInBounds_toArray, List.set_cons_zero, List.set_cons_succ])
  refine any_take (i := 4) (v := ?_) rfl (by kernel_rfl) (by kernel_rfl) (by kernel_rfl) (by exact fun _ _ _ h => h) (by rfl) ?_ hS ?_
  rotate_left
  · ((intro w hSw; (try dsimp only at hSw); go_simp) <;> with_reducible rfl)
  (try simp only [Act.put, List.setIfInBounds_toArray, List.set_cons_zero, List.set_cons_succ])
  refine any_take (i := 5) (v := ?_) rfl (by kernel_rfl) (by kernel_rfl) (by kernel_rfl) (by exact fun _ _ _ h => h) (by rfl) ?_ hS ?_
  rotate_left
  · ((intro w hSw; (try dsimp only at hSw); go_simp) <;> with_reducible rfl)
  (try simp only [Act.put, List.setIfInBounds_toArray, List.set_cons_zero, List.set_cons_succ])
  refine any_take (i := 6) (v := ?_) rfl (by kernel_rfl) (by kernel_rfl) (by kernel_rfl) (by exact fun _ _ _ h => h) (by rfl) ?_ hS ?_
  rotate_left
  · ((intro w hSw; (try dsimp only at hSw); go_simp) <;> with_reducible rfl)
  (try simp only [Act.put, List.setIfInBounds_toArray, List.set_cons_zero, List.set_cons_succ])
  refine any_take (i := 7) (v := ?_) rfl (by kernel_rfl) (by kernel_rfl) (by kernel_rfl) (by exact fun _ _ _ h => h) (by rfl) ?_ hS ?_
  rotate_left
  · ((intro w hSw; (try dsimp only at hSw); go_simp) <;> with_reducible rfl)
  (try simp only [Act.put, List.setIfInBounds_toArray, List.set_cons_zero, List.set_cons_succ])
  refine any_take (i := 8) (v := ?_) rfl (by kernel_rfl) (by kernel_rfl) (by kernel_rfl) (by exact fun _ _ _ h => h) (by rfl) ?_ hS ?_
  rotate_left
  · ((intro w hSw; (try dsimp only at hSw); go_simp) <;> with_reducible rfl)
  (try simp only [Act.put, List.setIfInBounds_toArray, List.set_cons_zero, List.set_cons_succ])
  refine any_take (i := 9) (v := ?_) rfl (by kernel_rfl) (by kernel_rfl) (by kernel_rfl) (by exact fun _ _ _ h => h) (by rfl) ?_ hS ?_
  rotate_left
  · ((intro w hSw; (try dsimp only at hSw); go_simp) <;> with_reducible rfl)
  (try simp only [Act.put, List.setIfInBounds_toArray, List.set_cons_zero, List.set_cons_succ])
  refine any_take (i := 10) (v := ?_) rfl (by kernel_rfl) (by kernel_rfl) (by kernel_rfl) (by exact fun _ _ _ h => h) (by rfl) ?_ hS ?_
  rotate_left
  · ((intro w hSw; (try dsimp only at hSw); go_simp) <;> with_reducible rfl)
  (try simp only [Act.put, List.setIfInBounds_toArray, List.set_cons_zero, List.set_cons_succ])
  refine any_take (i := 11) (v := ?_) rfl (by kernel_rfl) (by kernel_rfl) (by kernel_rfl) (by exact fun _ _ _ h => h) (by rfl) ?_ hS ?_
  rotate_left
  · ((intro w hSw; (try dsimp only at hSw); go_simp) <;> with_reducible rfl)
  (try simp only [Act.put, List.setIfInBounds_toArray, List.set_cons_zero, List.set_cons_succ])
  refine any_take (i := 12) (v := ?_) rfl (by kernel_rfl) (by kernel_rfl) (by kernel_rfl) (by exact fun _ _ _ h => h) (by rfl) ?_ hS ?_
  rotate_left
  · ((intro w hSw; (try dsimp only at hSw); go_simp) <;> with_reducible rfl)
  (try simp only [Act.put, List.setIfInBounds_toArray, List.set_cons_zero, List.set_cons_succ])
  refine any_one (i := 13) rfl (by kernel_rfl) (fun K hK => ?_)
  go_simp
  have b6 : Below w5.heap.size w5 ((w5.alloc (.cells (madeCells #[.int .u8 0] 64) 5)).drew) := ((Below.refl w5.heap.size w5).alloc (Nat.le_refl _) _).drew
  have r6 : Row (w5.alloc (.cells (madeCells #[.int .u8 0] 64) 5)).drew (some ⟨w5.heap.size, 0, none⟩) (List.replicate 64 0#8) := blk_row (w := (w5.alloc (.cells (madeCells #[.int .u8 0] 64) 5)).drew) (blk_made w5 64)
  refine hK.out _ _ b6 (any_weaken (S' := fun W => Below ((w5.alloc (.cells (madeCells #[.int .u8 0] 64) 5)).drew).heap.size ((w5.alloc (.cells (madeCells #[.int .u8 0] 64) 5)).drew) W) (fun W hW => below_then b6 hW) _ _ _ _ ?_)
  clear hK K hS
  generalize hx6 : (w5.alloc (.cells (madeCells #[.int .u8 0] 64) 5)).drew = x6 at *
  have hS : Below x6.heap.size x6 x6 := Below.refl _ _
  have hc6 : ∀ X, Below x6.heap.size x6 X → (convert 34 9 (.slice (some ⟨w5.heap.size, 0, none⟩) 64 64)).run Try.prog X = .ok (.string (str (List.replicate 64 0#8))) X := fun X hX => (r6.later hX).str _ _ (by rw [List.length_replicate])
  have ok6 := H5.out.1.later b6
  have B0 : Below x6.heap.size x6 x6 := Below.refl _ _
  (try simp only [Act.put, List.setIfInBounds_toArray, List.set_cons_zero, List.set_cons_succ])
  clear r6 hx6
  refine any_take (i := 14) (v := ?_) rfl (by kernel_rfl) (by kernel_rfl) (by kernel_rfl) (by exact fun _ _ _ h => h) (by rfl) ?_ hS ?_
  rotate_left
  · ((intro w hSw; (try dsimp only at hSw); go_simp) <;> with_reducible rfl)
  (try simp only [Act.put, List.setIfInBounds_toArray, List.set_cons_zero, List.set_cons_succ])
  refine any_take (i := 15) (v := ?_) rfl (by kernel_rfl) (by kernel_rfl) (by kernel_rfl) (by exact fun _ _ _ h => h) (by rfl) ?_ hS ?_
  rotate_left
  · ((intro w hSw; (try dsimp only at hSw); go_simp) <;> with_reducible rfl)
  (try simp only [Act.put, List.setIfInBounds_toArray, List.set_cons_zero, List.set_cons_succ])
  refine any_take (i := 16) (v := ?_) rfl (by kernel_rfl) (by kernel_rfl) (by kernel_rfl) (by exact fun _ _ _ h => h) (by rfl) ?_ hS ?_
  rotate_left
  · ((intro w hSw; (try dsimp only at hSw); go_simp) <;> with_reducible rfl)
  (try simp only [Act.put, List.setIfInBounds_toArray, List.set_cons_zero, List.set_cons_succ])
  refine any_take (i := 17) (v := ?_) rfl (by kernel_rfl) (by kernel_rfl) (by kernel_rfl) (by exact fun _ _ _ h => h) (by rfl) ?_ hS ?_
  rotate_left
  · ((intro w hSw; (try dsimp only at hSw); go_simp) <;> with_reducible rfl)
  (try simp only [Act.put, List.setIfInBounds_toArray, List.set_cons_zero, List.set_cons_succ])
  refine any_take (i := 18) (v := ?_) rfl (by kernel_rfl) (by kernel_rfl) (by kernel_rfl) (by exact fun _ _ _ h => h) (by rfl) ?_ hS ?_
  rotate_left
  · ((intro w hSw; (try dsimp only at hSw); go_simp) <;> with_reducible rfl)
  (try simp only [Act.put, List.setIfInBounds_toArray, List.set_cons_zero, List.set_cons_succ])
  refine any_one (i := 19) rfl (by kernel_rfl) (fun K hK => ?_)
  go_simp
  refine (Calls.mono (imBytes_str g b km2 x6 ok6 km2_wf _ km2_bytes)) ?_
  rintro e x1 ⟨a1, l1, c1, rfl, hc1, -, hbR⟩
  have B1 : Below x6.heap.size x6 x1 := below_then B0 hbR
  go_wp2_with fail
  refine hK.out _ _ (by first | exact B1 | exact hbR | exact below_then hS hbR) (any_weaken (S' := fun W => Below x1.heap.size x1 W) (fun W hW => by first | exact below_then B1 hW | exact below_then hbR hW | exact below_then (below_then hS hbR) hW) _ _ _ _ ?_)
  clear hK K hS hbR
  have hS : Below x1.heap.size x1 x1 := Below.refl _ _
  refine any_take (i := 20) (v := ?_) rfl (by kernel_rfl) (by kernel_rfl) (by kernel_rfl) (by exact fun _ _ _ h => h) (by rfl) ?_ hS ?_
  rotate_left
  · ((intro w hSw; (try dsimp only at hSw); go_simp) <;> with_reducible rfl)
  (try simp only [Act.put, List.setIfInBounds_toArray, List.set_cons_zero, List.set_cons_succ])
  refine any_one (i := 21) rfl (by kernel_rfl) (fun K hK => ?_)
  go_simp
  refine (Calls.mono (ones_str64 x1)) ?_
  rintro e x2 ⟨a2, l2, c2, rfl, hc2, -, hbR⟩
  have B2 : Below x6.heap.size x6 x2 := below_then B1 hbR
  go_wp2_with fail
  refine hK.out _ _ (by first | exact B2 | exact hbR | exact below_then hS hbR) (any_weaken (S' := fun W => Below x2.heap.size x2 W) (fun W hW => by first | exact below_then B2 hW | exact below_then hbR hW | exact below_then (below_then hS hbR) hW) _ _ _ _ ?_)
  clear hK K hS hbR
  have hS : Below x2.heap.size x2 x2 := Below.refl _ _
  refine any_take (i := 22) (v := ?_) rfl (by kernel_rfl) (by kernel_rfl) (by kernel_rfl) (by exact fun _ _ _ h => h) (by rfl) ?_ hS ?_
  rotate_left
  · ((intro w hSw; (try dsimp only at hSw); go_simp) <;> with_reducible rfl)
  (try simp only [Act.put, List.setIfInBounds_toArray, List.set_cons_zero, List.set_cons_succ])
  refine any_take (i := 23) (v := .string (str (six ++ on64))) rfl (by kernel_rfl) (by kernel_rfl) (by kernel_rfl) (by exact fun _ _ _ h => h) (by rfl) ?_ hS ?_
  · intro W hSW; have e6 := six_str; simp only [Value.string.injEq] at e6; have s1 : (str six).size = 6 := str_size six; have s2 : (str on64).size = 64 := str_size on64; have s3 := str_app six on64; go_simp
  (try simp only [Act.put, List.setIfInBounds_toArray, List.set_cons_zero, List.set_cons_succ])
  refine any_take (i := 24) (v := .bool true) rfl (by kernel_rfl) (by kernel_rfl) (by kernel_rfl) (by exact fun _ _ _ h => h) (by rfl) ?_ hS ?_
  · intro W hSW; go_simp
  (try simp only [Act.put, List.setIfInBounds_toArray, List.set_cons_zero, List.set_cons_succ])
  refine any_take (i := 25) (v := ?_) rfl (by kernel_rfl) (by kernel_rfl) (by kernel_rfl) (by exact fun _ _ _ h => h) (by rfl) ?_ hS ?_
  rotate_left
  · ((intro w hSw; (try dsimp only at hSw); go_simp) <;> with_reducible rfl)
  (try simp only [Act.put, List.setIfInBounds_toArray, List.set_cons_zero, List.set_cons_succ])
  refine any_take (i := 26) (v := ?_) rfl (by kernel_rfl) (by kernel_rfl) (by kernel_rfl) (by exact fun _ _ _ h => h) (by rfl) ?_ hS ?_
  rotate_left
  · ((intro w hSw; (try dsimp only at hSw); go_simp) <;> with_reducible rfl)
  (try simp only [Act.put, List.setIfInBounds_toArray, List.set_cons_zero])
  refine wpAnyH_done (by kernel_rfl) ?_ _
  have F : Hid _ := below_then H5.out.2 (below_then b6 B2)
  go_wp2_with fail
  go_ret
  exact ⟨rfl, F.out⟩
end Go.Proofs.Ytfiidcfpkodlpaa

