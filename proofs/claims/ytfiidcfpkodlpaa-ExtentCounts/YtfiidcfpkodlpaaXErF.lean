/- extent: the runs of an image as a slice of pairs. -/
import Derived.Test.YtfiidcfpkodlpaaXErE
import Derived.Test.YtfiidcfpkodlpaaXEx8
namespace Go.Proofs.Ytfiidcfpkodlpaa
open Go.RowKit
set_option linter.unusedVariables false
set_option linter.unusedSimpArgs false
set_option maxRecDepth 8000
attribute [local go_sem] Oper.semAt_some

/-- what holds while the runs are gone through -/
def NsI (w : World) (B : Nat) (l : List (Nat × Nat)) (W : World) : Prop :=
  ∃ T v, T.map (·.1) = l ∧ Blk W w.heap.size 26 [v] ∧ NsOwn W B v T ∧ Below w.heap.size w W ∧ B ≤ W.heap.size
def NsR (w : World) (l : List (Nat × Nat)) (v : Value) (w' : World) : Prop := ∃ T, T.map (·.1) = l ∧ NsOwn w' w.heap.size v T ∧ Below w.heap.size w w'
set_option maxHeartbeats 4000000 in
theorem lawruns_any (g b : Nat) (m : Im) (w : World) (h : (im g b m).Ok w) (hw : m.Wf) : Calls Try.prog 7 #[.pointer (some ⟨g, 0, none⟩)] w fun e w' => ∃ v, e = .returned v ∧ NsR w (rnN m m.n) v w' := by
  have hm := hw.most
  have B1 : Blk (w.alloc (.cells #[.slice none 0 0] 26)) w.heap.size 26 [.slice none 0 0] := Blk.new' w _ _
  have b1 : Below w.heap.size w (w.alloc (.cells #[.slice none 0 0] 26)) := (Below.refl _ _).alloc (Nat.le_refl _) _
  have z1 : (w.alloc (.cells #[.slice none 0 0] 26)).heap.size = w.heap.size + 1 := by simp
  have F0 : Hid _ := And.intro B1 (And.intro b1 (And.intro z1 (And.intro h hw)))
  clear B1 b1 z1 h hw
  refine (callsIn_wide (n := 9)).1 ?_
  refine callsIn_of_wp_marks Try.func7 rfl trivial ?_ rfl
  simp only [Try.ntmps7, List.size_toArray, List.length_cons, List.length_nil, Nat.reduceAdd, Nat.reduceSub, Array.replicate_succ, Array.replicate_zero, List.push_toArray, List.append_toArray, List.nil_append, List.cons_append]
  refine wpIn_wide.2 (wp_mono (Q := calmQ (bodyPostM Fence.wide 9 Try.prog Try.f7 (fun e w' => ∃ v, e = .returned v ∧ NsR w (rnN m m.n) v w'))) ?_ (fun e a w h => calmQ_out h))
  go_wp2_with fail
  generalize w.alloc (.cells #[.slice none 0 0] 26) = w1 at *
  have HR : Hid _ := Runs_any g b m w1 (F0.out.2.2.2.1.later F0.out.2.1) F0.out.2.2.2.2
  refine (Calls.mono HR.out) ?_
  rintro e x6 ⟨cb, rv, rfl, hcb, Bc, ho6, b6⟩
  obtain ⟨ra, rcap, rfl, hrc, -⟩ := ho6.open
  have hsn := seq_not_nil x6
  go_wp2_with fail
  have hrl := rn_len m m.n
  have B6 := F0.out.1.laterB b6
  have bb6 := below_then F0.out.2.1 b6
  have hz6 := bb6.size
  have hz1 := F0.out.2.2.1
  have hz61 := b6.size
  have hk7 : ∀ k ∈ cb :: (Value.slice ra (rnN m m.n).length rcap).ownBlock.toList, k < x6.heap.size ∧ w1.heap.size ≤ k := fun k hk => by
    rcases List.mem_cons.1 hk with rfl | hk
    · exact ⟨Bc.lt, hcb⟩
    · obtain ⟨h1, ⟨h2, h3⟩ | ⟨g', cap', cur, hv, hb, hh, r⟩⟩ := ho6
      · simp only [Value.slice.injEq] at h2; rw [h2.1] at hk; simp [Value.ownBlock] at hk
      · rw [hv] at hk
        obtain rfl : k = g' := by simpa [Value.ownBlock] using hk
        exact ⟨(Array.getElem?_eq_some_iff.1 hh).1, hb⟩
  have hsq := seq_stops 8 (by omega) cb ra rcap (rnN m m.n) x6 (fun r hr => Nat.le_trans (rn_bound m m.n r hr).1 hm) (by omega) Bc (rs_low ho6)
  generalize cb :: (Value.slice ra (rnN m m.n).length rcap).ownBlock.toList = ks at *
  refine (wpIn_wide (n := 9)).1 ?_
  refine wpIn_rangeFunc_ownG rfl (by omega) (gf := 38) (lb := #[.pointer (some ⟨cb, 0, none⟩)]) rfl trivial (enters_of Try.func38 (by kernel_rfl) rfl) hsq (fun h k => h.t k) (fun W l o o' hl h _ _ k hk => World.putObj_heap_other (by have := (hk7 k hk).1; omega)) (Below.refl _ _) (fun _ => rfl) (fun pre W => NsI w x6.heap.size (pre.map (·.1)) W) (fun _ _ _ => False)
    (fun s A B row hs hg hr => ?own) (fun _ _ _ _ _ hs _ _ => hs) ⟨[], _, rfl, B6, NsOwn.nil _ _, bb6, Nat.le_refl _⟩ (fun x => { tmps := #[.pointer (some ⟨g, 0, none⟩), undef, .slice none 0 0, .pointer (some ⟨w.heap.size, 0, none⟩), .func (.func 38) #[] #[.pointer (some ⟨cb, 0, none⟩)], .int .i64 (x.1.1 : Int), .int .i64 (x.1.2 : Int), .pointer (some ⟨g, 0, none⟩), .func (.func 38) #[] #[.pointer (some ⟨cb, 0, none⟩)], .func (.func 38) #[] #[.pointer (some ⟨cb, 0, none⟩)], .bool false, .func (.func 38) #[] #[.pointer (some ⟨cb, 0, none⟩)], .int .i64 (x.1.1 : Int), .int .i64 (x.1.2 : Int), undef, undef, undef, undef, undef, undef, undef], defers := [] }) ?assign ?body ?done ?stop
  case own =>
    obtain ⟨T, v, hT, hB, hO, hb, hlo⟩ := hs
    refine ⟨T, v, hT, blk_grown hB hg (fun e => ?_), hO.kept hg (fun q hq e => ?_) (fun p hp e => ?_), hb.grown hg hb.size (fun k e => Nat.le_trans hz6 (hr k e).1), Nat.le_trans hlo hg.size⟩
    · obtain ⟨_, o, ho, hc⟩ := hr _ e; exact blk_not hB ho hc
    · obtain ⟨_, o, ho, hc⟩ := hr _ e
      obtain ⟨cur, hcur⟩ := hO.row_cells hq
      rw [hcur] at ho; cases ho; cases hc
    · obtain ⟨_, o, ho, hc⟩ := hr _ e; exact blk_not (hO.each p hp).2 ho hc
  case assign =>
    intro l x W K hK
    simp only [encR]
    gi_wp2
    exact hK
  case body =>
    rintro l pre x W ⟨T, v, hT, hB, hO, hb, hlo⟩ hlt
    have htl : T.length ≤ 256 := by have := congrArg List.length hT; rw [List.length_map, List.length_map] at this; omega
    obtain ⟨⟨rf, rc⟩, hrx⟩ := x
    simp only at hrx
    rw [show (pre ++ [(⟨(rf, rc), hrx⟩ : Run)]) = pre ++ [⟨(rf, rc), hrx⟩] from rfl]
    have HB : Hid _ := And.intro hT (And.intro hO (And.intro hb (And.intro htl (And.intro hB hlo))))
    clear hT hO hb hsq hlo
    have c1 := hB.cell (by simp [maxLen]) 0 (by simp)
    simp only [List.getElem?_cons_zero] at c1
    clear hB
    have b1 : Below W.heap.size W (W.alloc (.cells #[.int .i64 (rf : Int), .int .i64 (rc : Int)] 3)) := (Below.refl _ _).alloc (Nat.le_refl _) _
    have P1 : Blk (W.alloc (.cells #[.int .i64 (rf : Int), .int .i64 (rc : Int)] 3)) W.heap.size 3 [.int .i64 (rf : Int), .int .i64 (rc : Int)] := Blk.new' W _ _
    have z2 : (W.alloc (.cells #[.int .i64 (rf : Int), .int .i64 (rc : Int)] 3)).heap.size = W.heap.size + 1 := by simp
    have b2 : Below (W.alloc (.cells #[.int .i64 (rf : Int), .int .i64 (rc : Int)] 3)).heap.size (W.alloc (.cells #[.int .i64 (rf : Int), .int .i64 (rc : Int)] 3)) ((W.alloc (.cells #[.int .i64 (rf : Int), .int .i64 (rc : Int)] 3)).alloc (.cells #[.slice (some ⟨W.heap.size, 0, none⟩) 2 2] 28)) := (Below.refl _ _).alloc (Nat.le_refl _) _
    have P2 : Blk ((W.alloc (.cells #[.int .i64 (rf : Int), .int .i64 (rc : Int)] 3)).alloc (.cells #[.slice (some ⟨W.heap.size, 0, none⟩) 2 2] 28)) (W.heap.size + 1) 28 [.slice (some ⟨W.heap.size, 0, none⟩) 2 2] := by have := Blk.new' (W.alloc (.cells #[.int .i64 (rf : Int), .int .i64 (rc : Int)] 3)) 28 [Value.slice (some ⟨W.heap.size, 0, none⟩) 2 2]; rw [z2] at this; exact this
    have P12 := P1.laterB b2
    have b12 := below_then b1 b2
    have z3 : W.heap.size ≤ ((W.alloc (.cells #[.int .i64 (rf : Int), .int .i64 (rc : Int)] 3)).alloc (.cells #[.slice (some ⟨W.heap.size, 0, none⟩) 2 2] 28)).heap.size := b12.size
    have H0 : Hid _ := And.intro P2 (And.intro P12 (And.intro b12 z3))
    clear b1 P1 z2 b2 P2 P12 b12 z3
    gi_wp2_with (gi_at_builtin; refine wpListIn_append_ns _ rfl _ _ rfl x6.heap.size v T rfl (HB.out.2.1.later H0.out.2.2.1) (W.heap.size + 1) ((rf, rc), W.heap.size) (by first | rfl | simp) H0.out.1 ⟨HB.out.2.2.2.2.2, H0.out.2.1⟩ (fun e => by have := (World.ownsRow.lt HB.out.2.1.own _ e).2; omega) (by have := HB.out.2.2.2.1; omega) (Nat.le_trans HB.out.2.2.2.2.2 H0.out.2.2.2) ?_)
    intro v' w7 ho7 hg7 hat
    obtain ⟨hT, hO, hb, htl, hB, hlo⟩ := HB.out
    obtain ⟨P2, P12, b12, z3⟩ := H0.out
    have hlt' := World.ownsRow.lt hO.own
    have hne : v.ownBlock ≠ some w.heap.size := fun e => by have := (hlt' _ e).1; omega
    have hB7 := blk_grown (hB.laterB b12) hg7 hne
    have hb7 : Below w.heap.size w w7 := (below_then hb b12).grown hg7 (Nat.le_trans hb.size z3) (fun k e => Nat.le_trans hz6 (hlt' k e).1)
    obtain ⟨e7, f7⟩ : w7.cell? ⟨w.heap.size, 0, none⟩ = some v ∧ w7.frozen? ⟨w.heap.size, 0, none⟩ = false := ⟨by have := hB7.cell (by simp [maxLen]) 0 (by simp); simpa using this, hB7.frozen (by simp [maxLen]) 0⟩
    have hB8 := hB7.set 0 v'
    have ho8 : NsOwn (w7.setCell ⟨w.heap.size, 0, none⟩ v') x6.heap.size v' (T ++ [((rf, rc), W.heap.size)]) := ho7.kept (grown_set w7 w.heap.size 0 v') (fun q hq e => by have := (World.ownsRow.lt ho7.own q hq).1; have := Option.some.inj e; omega) (fun p hp e => by have := (ho7.each p hp).1; have := Option.some.inj e; omega)
    have hb8 : Below w.heap.size w (w7.setCell ⟨w.heap.size, 0, none⟩ v') := hb7.trans (grown_below (grown_set w7 w.heap.size 0 v') _ (Nat.le_refl _) hb7.size)
    have hlater : ∀ k, k < W.heap.size → k ≠ w.heap.size → v.ownBlock ≠ some k → (w7.setCell ⟨w.heap.size, 0, none⟩ v').heap[k]? = W.heap[k]? := by
      intro k hk h1 h2
      rw [Below.heap_setCell _ _ _ _ h1, hg7.block k (Nat.lt_of_lt_of_le hk z3) (fun e => h2 e.symm), b12.block k hk]
    have hs8 : W.heap.size ≤ (w7.setCell ⟨w.heap.size, 0, none⟩ v').heap.size := Nat.le_trans z3 (Nat.le_trans hg7.size (by simp [World.setCell]))
    have hKF : KeepsFrom x6.heap.size W (w7.setCell ⟨w.heap.size, 0, none⟩ v') := by
      refine ⟨hs8, fun k o hk hko hc => ?_⟩
      rw [hlater k (Array.getElem?_eq_some_iff.1 hko).1 (by omega) (fun e => ?_)]
      · exact hko
      · obtain ⟨cur, hcur⟩ := hO.row_cells e
        rw [hcur] at hko; cases hko; cases hc
    have hKL : KeepB ks W (w7.setCell ⟨w.heap.size, 0, none⟩ v') := by
      intro k hk
      obtain ⟨h1, h2⟩ := hk7 k hk
      exact hlater k (by omega) (by omega) (fun e => by have := (hlt' _ e).1; omega)
    have hvs : ∃ va vn vc, v' = .slice va vn vc := by
      obtain ⟨_, ⟨e, _⟩ | ⟨g', cap, cur, e, _⟩⟩ := ho7.own
      · exact ⟨_, _, _, e⟩
      · exact ⟨_, _, _, e⟩
    have hT8 : (T ++ [((rf, rc), W.heap.size)]).map (·.1) = (pre ++ [(⟨(rf, rc), hrx⟩ : Run)]).map (·.1) := by rw [List.map_append, List.map_append, hT]; rfl
    have F : Hid _ := And.intro hKF (And.intro hKL (show NsI w x6.heap.size ((pre ++ [(⟨(rf, rc), hrx⟩ : Run)]).map (·.1)) (w7.setCell ⟨w.heap.size, 0, none⟩ v') from ⟨_, v', hT8, hB8, ho8, hb8, Nat.le_trans hlo hs8⟩))
    clear hKF hKL hT8 hB8 ho8 hb8 hs8 hlater hB7 hb7 hne hlt' hO hb hB b12 P12 P2 hT ho7 hg7 hat H0 HB c1
    obtain ⟨va, vn, vc, rfl⟩ := hvs
    gi_wp2_with fail
    exact F.out
  case done =>
    rintro D ys W hD hys ⟨T, v, hT, hB, hO, hb, hlo⟩ hdf
    have c1 := hB.cell (by simp [maxLen]) 0 (by simp)
    simp only [List.getElem?_cons_zero] at c1
    rw [hys] at hT
    have hlD : D < W.heap.size := (Array.getElem?_eq_some_iff.1 hdf).1
    have F : Hid _ := And.intro hb (And.intro hdf (And.intro hD (And.intro hz6 (And.intro hT hO))))
    clear hb hdf hsq hys hB hD hT hO hlD
    go_wp2_with fail
    refine ⟨by simp, .inl ⟨_, _, rfl, run_takeDeferred F.out.2.1, ?_⟩⟩
    obtain ⟨hb, hdf, hD, hz, hT, hO⟩ := F.out
    refine ⟨_, results_tmp rfl _ _ _, _, rfl, T, hT, ?_, hb.trans (belowK_b (w := w) (Nat.le_refl _) W D _ _ (Nat.le_trans hz6 hD) hdf rfl rfl)⟩
    refine (hO.low hz6).kept (row := some D) (grownBy_putObj' W D _) (fun q hq e => ?_) (fun p hp e => ?_)
    · obtain ⟨cur, hcur⟩ := hO.row_cells hq
      cases e; rw [hcur] at hdf; cases hdf
    · cases e
      exact blk_not (hO.each p hp).2 hdf rfl
  case stop =>
    rintro D c pre W _ _ h _
    exact h.elim
end Go.Proofs.Ytfiidcfpkodlpaa

