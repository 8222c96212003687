/- Images that are not there; ones. -/
import Derived.Test.YtfiidcfpkodlpaaXEx6
namespace Go.Proofs.Ytfiidcfpkodlpaa
open Go.RowKit Go.MapKept Go.ChangeMaps Go.Shelf
set_option linter.unusedVariables false
set_option maxRecDepth 4000
attribute [local go_sem] Oper.semAt_some

theorem imRead_nil (a k : Int) (w : World) : Calls Try.prog 14 #[.pointer none, .int .i64 a, .int .i64 k] w fun e w' => e = .returned (.tuple #[.slice none 0 0, .int .i64 2]) ∧ w = w' := by
  go_enter Try.func14, Try.ntmps14
  go_wp2
  go_ret2
  exact ⟨rfl, rfl⟩

theorem imWrite_nil (a : Int) (v : Value) (w : World) : Calls Try.prog 19 #[.pointer none, .int .i64 a, v] w fun e w' => e = .returned (.int .i64 2) ∧ w = w' := by
  go_enter Try.func19, Try.ntmps19
  go_wp2
  go_ret
  exact ⟨rfl, rfl⟩
theorem imUnmap_nil (a k : Int) (w : World) : Calls Try.prog 21 #[.pointer none, .int .i64 a, .int .i64 k] w fun e w' => e = .returned (.int .i64 2) ∧ w = w' := by
  go_enter Try.func21, Try.ntmps21
  go_wp2
  go_ret
  exact ⟨rfl, rfl⟩
theorem imChange_nil (v : Value) (w : World) : Calls Try.prog 13 #[.pointer none, v] w fun e w' => e = .returned (.int .i64 2) ∧ w = w' := by
  go_enter Try.func13, Try.ntmps13
  go_wp2
  go_ret
  exact ⟨rfl, rfl⟩
theorem imSize_nil (w : World) : Calls Try.prog 9 #[.pointer none] w fun e w' => e = .returned (.int .i64 0) ∧ w = w' := by
  go_enter Try.func9, Try.ntmps9
  go_wp2
  go_ret
  exact ⟨rfl, rfl⟩
theorem imUsed_nil (w : World) : Calls Try.prog 10 #[.pointer none] w fun e w' => e = .returned (.int .i64 0) ∧ w = w' := by
  go_enter Try.func10, Try.ntmps10
  go_wp2
  go_ret
  exact ⟨rfl, rfl⟩
theorem imHas_nil (a : Int) (w : World) : Calls Try.prog 8 #[.pointer none, .int .i64 a] w fun e w' => e = .returned (.bool false) ∧ w = w' := by
  go_enter Try.func8, Try.ntmps8
  go_wp2
  go_ret
  exact ⟨rfl, rfl⟩


theorem imBytes_nil (w : World) : Calls Try.prog 12 #[.pointer none] w fun e w' => e = .returned (.slice none 0 0) ∧ Below w.heap.size w w' := by
  have B1 : Blk (w.alloc (.cells #[.pointer none] 23)) w.heap.size 23 [.pointer none] := Blk.new' w _ _
  have c1 := B1.cell (by simp [maxLen]) 0 (by simp)
  simp only [List.getElem?_cons_zero] at c1
  clear B1
  go_enter Try.func12, Try.ntmps12
  go_wp2
  go_ret
  exact ⟨rfl, (Below.refl _ _).alloc (Nat.le_refl _) _⟩
theorem imruns_nil (w : World) : Calls Try.prog 37 #[.pointer none] w fun e w' => e = .returned (.slice none 0 0) ∧ w = w' := by
  go_enter Try.func37, Try.ntmps37
  go_wp2_with (go_at_call 9; refine (imSize_nil _).mono ?_; rintro e w' ⟨rfl, rfl⟩)
  go_loopw [3, 7] (fun v i wr => v = .slice none 0 0 ∧ i = .int .i64 0 ∧ w = wr) (fun _ _ _ => 0)
  case atStart => exact ⟨rfl, rfl, rfl⟩
  case round =>
    obtain ⟨rfl, rfl, rfl⟩ := hrel
    go_wp2
    go_ret
    exact ⟨rfl, rfl⟩
theorem imRuns_nil (w : World) : Calls Try.prog 18 #[.pointer none] w fun e w' => ∃ c, e = .returned (.func (.func 38) #[] #[.pointer (some ⟨c, 0, none⟩)]) ∧ Blk w' c 79 [.slice none 0 0] ∧ Below w.heap.size w w' := by
  have B2 : Blk (w.alloc (.cells #[.slice none 0 0] 79)) w.heap.size 79 [.slice none 0 0] := Blk.new' w _ _
  have b2 : Below w.heap.size w (w.alloc (.cells #[.slice none 0 0] 79)) := (Below.refl _ _).alloc (Nat.le_refl _) _
  have F : Hid _ := And.intro B2 b2
  clear B2 b2
  go_enter Try.func18, Try.ntmps18
  go_wp2_with (go_at_call 37; refine (imruns_nil _).mono ?_; rintro e w' ⟨rfl, rfl⟩)
  go_ret
  exact ⟨_, rfl, F.out.1, F.out.2⟩

theorem seq_not_nil (w : World) (f : Fn) (x y : Array Value) : (binOp .eql 52 (.func f x y) .nilFunc).run Try.prog w = .ok (.bool false) w := by kernel_rfl
set_option maxHeartbeats 1000000 in
theorem lawruns_nil (w : World) : Calls Try.prog 7 #[.pointer none] w fun e w' => e = .returned (.slice none 0 0) ∧ Below w.heap.size w w' := by
  have B1 : Blk (w.alloc (.cells #[.slice none 0 0] 26)) w.heap.size 26 [.slice none 0 0] := Blk.new' w _ _
  have b1 : Below w.heap.size w (w.alloc (.cells #[.slice none 0 0] 26)) := (Below.refl _ _).alloc (Nat.le_refl _) _
  have F0 : Hid _ := And.intro B1 b1
  clear B1 b1
  refine (callsIn_wide (n := 9)).1 ?_
  refine callsIn_of_wp_marks Try.func7 rfl trivial ?_ rfl
  simp only [Try.ntmps7, List.size_toArray, List.length_cons, List.length_nil, Nat.reduceAdd, Nat.reduceSub, Array.replicate_succ, Array.replicate_zero, List.push_toArray, List.append_toArray, List.nil_append, List.cons_append]
  refine wpIn_wide.2 (wp_mono (Q := calmQ (bodyPostM Fence.wide 9 Try.prog Try.f7 fun e w' => e = .returned (.slice none 0 0) ∧ Below w.heap.size w w')) ?_ (fun e a w h => calmQ_out h))
  go_wp2_with fail
  generalize w.alloc (.cells #[.slice none 0 0] 26) = w1 at *
  refine (imRuns_nil w1).mono ?_
  rintro e x6 ⟨cb, rfl, Bc, b6⟩
  have hsn := seq_not_nil x6
  go_wp2_with fail
  have hsq := seq_stops 8 (by omega) cb none 0 [] x6 (fun r hr => by cases hr) (by simp) Bc (RsOwn.nil _ _)
  have B6 := F0.out.1.laterB b6
  have bb6 := below_then F0.out.2 b6
  have hz6 := bb6.size
  have hk7 : ∀ k ∈ cb :: (Value.slice none ([] : List (Nat × Nat)).length 0).ownBlock.toList, k < x6.heap.size := fun k hk => by
    have : k = cb := by simpa [Value.ownBlock] using hk
    subst this; exact Bc.lt
  refine (wpIn_wide (n := 9)).1 ?_
  refine wpIn_rangeFunc_ownG rfl (by omega) (gf := 38) (lb := #[.pointer (some ⟨cb, 0, none⟩)]) rfl trivial (enters_of Try.func38 (by kernel_rfl) rfl) hsq (fun h k => h.t k) (fun W l o o' hl h _ _ k hk => World.putObj_heap_other (by have := hk7 k hk; omega)) (Below.refl _ _) (fun _ => rfl) (fun pre W => Blk W w.heap.size 26 [.slice none 0 0] ∧ Below w.heap.size w W) (fun _ _ _ => False)
    (fun s A B row hs hg hr => ⟨hs.1.turned (turned_grown (R := fun k => row = some k) hg (fun k e => e)) (fun e => by obtain ⟨_, o, ho, hc⟩ := hr _ e; exact blk_not hs.1 ho hc), hs.2.grown hg hs.2.size (fun k e => Nat.le_trans hz6 (hr k e).1)⟩)
    (fun _ _ _ _ _ hs _ _ => hs) ⟨B6, bb6⟩ (fun x => { tmps := #[.pointer none, undef, .slice none 0 0, .pointer (some ⟨w.heap.size, 0, none⟩), .func (.func 38) #[] #[.pointer (some ⟨cb, 0, none⟩)], .int .i64 (x.1.1 : Int), .int .i64 (x.1.2 : Int), .pointer none, .func (.func 38) #[] #[.pointer (some ⟨cb, 0, none⟩)], .func (.func 38) #[] #[.pointer (some ⟨cb, 0, none⟩)], .bool false, .func (.func 38) #[] #[.pointer (some ⟨cb, 0, none⟩)], .int .i64 (x.1.1 : Int), .int .i64 (x.1.2 : Int), undef, undef, undef, undef, undef, undef, undef], defers := [] }) ?assign ?body ?done ?stop
  case assign =>
    intro l x W K hK
    simp only [encR]
    gi_wp2
    exact hK
  case body =>
    rintro l pre x W hI hlt
    exact absurd hlt (by simp)
  case done =>
    rintro D ys W hD hys ⟨hB, hb⟩ hdf
    have c1 := hB.cell (by simp [maxLen]) 0 (by simp)
    simp only [List.getElem?_cons_zero] at c1
    have F : Hid _ := And.intro hb (And.intro hdf (And.intro hD hz6))
    clear hb hdf hsq hys hB hD
    go_wp2_with fail
    refine ⟨by simp, .inl ⟨_, _, rfl, run_takeDeferred F.out.2.1, ?_⟩⟩
    exact ⟨_, results_tmp rfl _ _ _, rfl, F.out.1.trans (belowK_b (w := w) (Nat.le_refl _) W D _ _ (Nat.le_trans hz6 F.out.2.2.1) F.out.2.1 rfl rfl)⟩
  case stop =>
    rintro D c pre W _ _ h _
    exact h.elim

/-- the first k cells are 1 -/
def onesTo (n k : Nat) : List (BitVec 8) := List.replicate k 1#8 ++ List.replicate (n - k) 0#8
theorem onesTo_length (n k : Nat) (h : k ≤ n) : (onesTo n k).length = n := by unfold onesTo; rw [List.length_append, List.length_replicate, List.length_replicate]; omega
theorem onesTo_step (n k : Nat) (h : k < n) : (vals (onesTo n k)).set k (.int .u8 1) = vals (onesTo n (k + 1)) := by
  unfold onesTo
  rw [vals_append, vals_append, show n - k = (n - (k + 1)) + 1 by omega, List.replicate_succ, List.replicate_succ']
  generalize n - (k + 1) = m
  have e : (vals (List.replicate k 1#8)).length = k := by rw [vals_length, List.length_replicate]
  rw [List.set_append_right _ _ (by omega), e, Nat.sub_self, vals_append]
  simp [vals]
set_option maxHeartbeats 1000000 in
theorem ones5_any (n : Nat) (hn : n ≤ 1000000) (w : World) : Calls Try.prog 20 #[.int .i64 n] w fun e w' => ∃ v, e = .returned v ∧ Own w' w.heap.size v (List.replicate n 1#8) ∧ Below w.heap.size w w' := by
  have hmk := make_bytes n n rfl (by omega)
  have mb : Below w.heap.size w (w.alloc (.cells (madeCells #[.int .u8 0] n) 5)) := (Below.refl _ _).alloc (Nat.le_refl _) _
  have mB : Blk (w.alloc (.cells (madeCells #[.int .u8 0] n) 5)) w.heap.size 5 (vals (onesTo n 0)) := by unfold onesTo; simpa using blk_made w n
  have K1 : Hid _ := And.intro mB mb
  have hn' : (n : Int) ≤ 1000000 := by omega
  clear mB mb
  go_enter Try.func20, Try.ntmps20
  go_wp2_with fail
  generalize w.alloc (.cells (madeCells #[.int .u8 0] n) 5) = w2 at *
  go_loopw [4] (fun i wr => ∃ k : Nat, k ≤ n ∧ i = .int .i64 k ∧ Blk wr w.heap.size 5 (vals (onesTo n k)) ∧ w2.grownBy wr (some w.heap.size)) (fun i _ => n - (intOf i).toNat)
  case atStart => exact ⟨0, by omega, rfl, K1.out.1, ⟨rfl, rfl, rfl, Nat.le_refl _, fun _ _ _ => rfl⟩⟩
  case round =>
    obtain ⟨k, hk, rfl, hB, hG⟩ := hrel
    have hl : (vals (onesTo n k)).length = n := by rw [vals_length]; exact onesTo_length n k hk
    by_cases hlt : k < n
    · have q1 : (k : Int) < n := by omega
      obtain ⟨old, hc⟩ : ∃ old, wr.cell? ⟨w.heap.size, k, none⟩ = some old := ⟨_, (hB.cell (by rw [hl]; unfold maxLen; omega) k (by omega)).trans (List.getElem?_eq_getElem (by omega))⟩
      have hf := hB.frozen (by rw [hl]; unfold maxLen; omega) k
      have B' := hB.set k (.int .u8 1)
      rw [onesTo_step n k hlt] at B'
      have F : Hid _ := And.intro B' (grown_trans hG (grown_set wr w.heap.size k (.int .u8 1)))
      clear hB hG B' hl K1 hmk
      go_wp2
      exact ⟨⟨k + 1, by omega, by go_num, F.out.1, F.out.2⟩, by simp [intOf]; omega⟩
    · obtain rfl : k = n := by omega
      have hO : Own wr w.heap.size (.slice (some ⟨w.heap.size, 0, none⟩) k k) (List.replicate k 1#8) := by
        have e : onesTo k k = List.replicate k 1#8 := by unfold onesTo; rw [Nat.sub_self]; simp
        rw [e] at hB
        have := blk_own (base := w.heap.size) (cap := k) (l := List.replicate k 1#8) hB (by rw [vals_length, List.length_replicate]) (by rw [List.take_of_length_le (by rw [vals_length]; exact Nat.le_refl _)]) (by rw [List.length_replicate]; exact Nat.le_refl _) (by unfold maxLen; omega) (Nat.le_refl _)
        rwa [List.length_replicate] at this
      have F : Hid _ := And.intro hO (K1.out.2.trans (grown_below hG _ (Nat.le_refl _) K1.out.2.size))
      clear hO hB hG K1 hmk hl
      go_wp2
      go_ret
      exact ⟨_, rfl, F.out.1, F.out.2⟩
end Go.Proofs.Ytfiidcfpkodlpaa

