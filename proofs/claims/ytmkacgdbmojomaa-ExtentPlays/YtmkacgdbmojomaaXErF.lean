/- extent: the runs of an image as a slice of pairs. -/
import Derived.Test.YtmkacgdbmojomaaXErE
import Derived.Test.YtmkacgdbmojomaaXEx6
namespace Go.Proofs.Ytmkacgdbmojomaa
open Go.RowKit
set_option linter.unusedVariables false
set_option linter.unusedSimpArgs false
set_option maxRecDepth 8000
attribute [local go_sem] Oper.semAt_some

/-- what holds while the runs are gone through -/
def NsI (w : World) (B : Nat) (l : List (Nat × Nat)) (W : World) : Prop :=
  ∃ T v, T.map (·.1) = l ∧ Blk W w.heap.size 88 [v] ∧ NsOwn W B v T ∧ Below w.heap.size w W ∧ B ≤ W.heap.size
def NsR (w : World) (l : List (Nat × Nat)) (v : Value) (w' : World) : Prop := ∃ T, T.map (·.1) = l ∧ NsOwn w' w.heap.size v T ∧ Below w.heap.size w w'
set_option maxHeartbeats 4000000 in
theorem lawruns_any (g b : Nat) (m : Im) (w : World) (h : (im g b m).Ok w) (hw : m.Wf) : Calls Try.prog 51 #[.pointer (some ⟨g, 0, none⟩)] w fun e w' => ∃ v, e = .returned v ∧ NsR w (rnN m m.n) v w' := by
  have hm := hw.most
  have B1 : Blk (w.alloc (.cells #[.slice none 0 0] 88)) w.heap.size 88 [.slice none 0 0] := Blk.new' w _ _
  have b1 : Below w.heap.size w (w.alloc (.cells #[.slice none 0 0] 88)) := (Below.refl _ _).alloc (Nat.le_refl _) _
  have z1 : (w.alloc (.cells #[.slice none 0 0] 88)).heap.size = w.heap.size + 1 := by simp
  have F0 : Hid _ := And.intro B1 (And.intro b1 (And.intro z1 (And.intro h hw)))
  clear B1 b1 z1 h hw
  refine (callsIn_wide (n := 9)).1 ?_
  refine callsIn_of_wp_marks Try.func51 rfl trivial ?_ rfl
  simp only [Try.ntmps51, List.size_toArray, List.length_cons, List.length_nil, Nat.reduceAdd, Nat.reduceSub, Array.replicate_succ, Array.replicate_zero, List.push_toArray, List.append_toArray, List.nil_append, List.cons_append]
  refine wpIn_wide.2 (wp_mono (Q := calmQ (bodyPostM Fence.wide 9 Try.prog Try.f51 (fun e w' => ∃ v, e = .returned v ∧ NsR w (rnN m m.n) v w'))) ?_ (fun e a w h => calmQ_out h))
  go_wp2_with fail
  generalize w.alloc (.cells #[.slice none 0 0] 88) = w1 at *
  have HR : Hid _ := Runs_any g b m w1 (F0.out.2.2.2.1.later F0.out.2.1) F0.out.2.2.2.2
  refine (Calls.mono HR.out) ?_
  rintro e x6 ⟨cb, rv, rfl, hcb, Bc, ho6, b6⟩
  obtain ⟨ra, rcap, rfl, hrc, -⟩ := ho6.open
  have hsn := seq_not_nil x6
  go_wp2_with fail
  have hrl := rn_len m m.n
  have B6 := F0.out.1.laterB b6
  have bb6 := below_then F0.out.2.1 b6
  have hz6 := bb6.size
  have hz1 := F0.out.2.2.1
  have hz61 := b6.size
  have hk7 : ∀ k ∈ cb :: (Value.slice ra (rnN m m.n).length rcap).ownBlock.toList, k < x6.heap.size ∧ w1.heap.size ≤ k := fun k hk => by
    rcases List.mem_cons.1 hk with rfl | hk
    · exact ⟨Bc.lt, hcb⟩
    · obtain ⟨h1, ⟨h2, h3⟩ | ⟨g', cap', cur, hv, hb, hh, r⟩⟩ := ho6
      · simp only [Value.slice.injEq] at h2; rw [h2.1] at hk; simp [Value.ownBlock] at hk
      · rw [hv] at hk
        obtain rfl : k = g' := by simpa [Value.ownBlock] using hk
        exact ⟨(Array.getElem?_eq_some_iff.1 hh).1, hb⟩
  have hsq := seq_stops 8 (by omega) cb ra rcap (rnN m m.n) x6 (fun r hr => Nat.le_trans (rn_bound m m.n r hr).1 hm) (by omega) Bc (rs_low ho6)
  generalize cb :: (Value.slice ra (rnN m m.n).length rcap).ownBlock.toList = ks at *
  refine (wpIn_wide (n := 9)).1 ?_
  refine wpIn_rangeFunc_ownG rfl (by omega) (gf := 66) (lb := #[.pointer (some ⟨cb, 0, none⟩)]) rfl trivial (enters_of Try.func66 (by kernel_rfl) rfl) hsq (fun h k => h.t k) (fun W l o o' hl h _ _ k hk => World.putObj_heap_other (by have := (hk7 k hk).1; omega)) (Below.refl _ _) (fun _ => rfl) (fun pre W => NsI w x6.heap.size (pre.map (·.1)) W) (fun _ _ _ => False)
    (fun s A B row hs hg hr => ?own) (fun _ _ _ _ _ hs _ _ => hs) ⟨[], _, rfl, B6, NsOwn.nil _ _, bb6, Nat.le_refl _⟩ (fun x => { tmps := #[.pointer (some ⟨g, 0, none⟩), undef, .slice none 0 0, .pointer (some ⟨w.heap.size, 0, none⟩), .func (.func 66) #[] #[.pointer (some ⟨cb, 0, none⟩)], .int .i64 (x.1.1 : Int), .int .i64 (x.1.2 : Int), .pointer (some ⟨g, 0, none⟩), .func (.func 66) #[] #[.pointer (some ⟨cb, 0, none⟩)], .func (.func 66) #[] #[.pointer (some ⟨cb, 0, none⟩)], .bool false, .func (.func 66) #[] #[.pointer (some ⟨cb, 0, none⟩)], .int .i64 (x.1.1 : Int), .int .i64 (x.1.2 : Int), undef, undef, undef, undef, undef, undef, undef], defers := [] }) ?assign ?body ?done ?stop
  case own =>
    obtain ⟨T, v, hT, hB, hO, hb, hlo⟩ := hs
    refine ⟨T, v, hT, blk_grown hB hg (fun e => ?_), hO.kept hg (fun q hq e => ?_) (fun p hp e => ?_), hb.grown hg hb.size (fun k e => Nat.le_trans hz6 (hr k e).1), Nat.le_trans hlo hg.size⟩
    · obtain ⟨_, o, ho, hc⟩ := hr _ e; exact blk_not hB ho hc
    · obtain ⟨_, o, ho, hc⟩ := hr _ e
      obtain ⟨cur, hcur⟩ := hO.row_cells hq
      rw [hcur] at ho; cases ho; cases hc
    · obtain ⟨_, o, ho, hc⟩ := hr _ e; exact blk_not (hO.each p hp).2 ho hc
  case assign =>
    intro l x W K hK
    simp only [encR]
    gi_wp2
    exact hK
  case body =>
    rintro l pre x W ⟨T, v, hT, hB, hO, hb, hlo⟩ hlt
    have htl : T.length ≤ 256 := by have := congrArg List.length hT; rw [List.length_map, List.length_map] at this; omega
    obtain ⟨⟨rf, rc⟩, hrx⟩ := x
    simp only at hrx
    rw [show (pre ++ [(⟨(rf, rc), hrx⟩ : Run)]) = pre ++ [⟨(rf, rc), hrx⟩] from rfl]
    have HB : Hid _ := And.intro hT (And.intro hO (And.intro hb (And.intro htl (And.intro hB hlo))))
    clear hT hO hb hsq hlo
    have c1 := hB.cell (by simp [maxLen]) 0 (by simp)
    simp only [List.getElem?_cons_zero] at c1
    clear hB
    have b1 : Below W.heap.size W (W.alloc (.cells #[.int .i64 (rf : Int), .int .i64 (rc : Int)] 3)) := (Below.refl _ _).alloc (Nat.le_refl _) _
    have P1 : Blk (W.alloc (.cells #[.int .i64 (rf : Int), .int .i64 (rc : Int)] 3)) W.heap.size 3 [.int .i64 (rf : Int), .int .i64 (rc : Int)] := Blk.new' W _ _
    have z2 : (W.alloc (.cells #[.int .i64 (rf : Int), .int .i64 (rc : Int)] 3)).heap.size = W.heap.size + 1 := by simp
    have b2 : Below (W.alloc (.cells #[.int .i64 (rf : Int), .int .i64 (rc : Int)] 3)).heap.size (W.alloc (.cells #[.int .i64 (rf : Int), .int .i64 (rc : Int)] 3)) ((W.alloc (.cells #[.int .i64 (rf : Int), .int .i64 (rc : Int)] 3)).alloc (.cells #[.slice (some ⟨W.heap.size, 0, none⟩) 2 2] 123)) := (Below.refl _ _).alloc (Nat.le_refl _) _
    have P2 : Blk ((W.alloc (.cells #[.int .i64 (rf : Int), .int .i64 (rc : Int)] 3)).alloc (.cells #[.slice (some ⟨W.heap.size, 0, none⟩) 2 2] 123)) (W.heap.size + 1) 123 [.slice (some ⟨W.heap.size, 0, none⟩) 2 2] := by have := Blk.new' (W.alloc (.cells #[.int .i64 (rf : Int), .int .i64 (rc : Int)] 3)) 123 [Value.slice (some ⟨W.heap.size, 0, none⟩) 2 2]; rw [z2] at this; exact this
    have P12 := P1.laterB b2
    have b12 := below_then b1 b2
    have z3 : W.heap.size ≤ ((W.alloc (.cells #[.int .i64 (rf : Int), .int .i64 (rc : Int)] 3)).alloc (.cells #[.slice (some ⟨W.heap.size, 0, none⟩) 2 2] 123)).heap.size := b12.size
    have H0 : Hid _ := And.intro P2 (And.intro P12 (And.intro b12 z3))
    clear b1 P1 z2 b2 P2 P12 b12 z3
    gi_wp2_with (gi_at_builtin; refine wpListIn_append_ns _ rfl _ _ rfl x6.heap.size v T rfl (HB.out.2.1.later H0.out.2.2.1) (W.heap.size + 1) ((rf, rc), W.heap.size) (by first | rfl | simp) H0.out.1 ⟨HB.out.2.2.2.2.2, H0.out.2.1⟩ (fun e => by have := (World.ownsRow.lt HB.out.2.1.own _ e).2; omega) (by have := HB.out.2.2.2.1; omega) (Nat.le_trans HB.out.2.2.2.2.2 H0.out.2.2.2) ?_)
    intro v' w7 ho7 hg7 hat
    obtain ⟨hT, hO, hb, htl, hB, hlo⟩ := HB.out
    obtain ⟨P2, P12, b12, z3⟩ := H0.out
    have hlt' := World.ownsRow.lt hO.own
    have hne : v.ownBlock ≠ some w.heap.size := fun e => by have := (hlt' _ e).1; omega
    have hB7 := blk_grown (hB.laterB b12) hg7 hne
    have hb7 : Below w.heap.size w w7 := (below_then hb b12).grown hg7 (Nat.le_trans hb.size z3) (fun k e => Nat.le_trans hz6 (hlt' k e).1)
    obtain ⟨e7, f7⟩ : w7.cell? ⟨w.heap.size, 0, none⟩ = some v ∧ w7.frozen? ⟨w.heap.size, 0, none⟩ = false := ⟨by have := hB7.cell (by simp [maxLen]) 0 (by simp); simpa using this, hB7.frozen (by simp [maxLen]) 0⟩
    have hB8 := hB7.set 0 v'
    have ho8 : NsOwn (w7.setCell ⟨w.heap.size, 0, none⟩ v') x6.heap.size v' (T ++ [((rf, rc), W.heap.size)]) := ho7.kept (grown_set w7 w.heap.size 0 v') (fun q hq e => by have := (World.ownsRow.lt ho7.own q hq).1; have := Option.some.inj e; omega) (fun p hp e => by have := (ho7.each p hp).1; have := Option.some.inj e; omega)
    have hb8 : Below w.heap.size w (w7.setCell ⟨w.heap.size, 0, none⟩ v') := hb7.trans (grown_below (grown_set w7 w.heap.size 0 v') _ (Nat.le_refl _) hb7.size)
    have hlater : ∀ k, k < W.heap.size → k ≠ w.heap.size → v.ownBlock ≠ some k → (w7.setCell ⟨w.heap.size, 0, none⟩ v').heap[k]? = W.heap[k]? := by
      intro k hk h1 h2
      rw [Below.heap_setCell _ _ _ _ h1, hg7.block k (Nat.lt_of_lt_of_le hk z3) (fun e => h2 e.symm), b12.block k hk]
    have hs8 : W.heap.size ≤ (w7.setCell ⟨w.heap.size, 0, none⟩ v').heap.size := Nat.le_trans z3 (Nat.le_trans hg7.size (by simp [World.setCell]))
    have hKF : KeepsFrom x6.heap.size W (w7.setCell ⟨w.heap.size, 0, none⟩ v') := by
      refine ⟨hs8, fun k o hk hko hc => ?_⟩
      rw [hlater k (Array.getElem?_eq_some_iff.1 hko).1 (by omega) (fun e => ?_)]
      · exact hko
      · obtain ⟨cur, hcur⟩ := hO.row_cells e
        rw [hcur] at hko; cases hko; cases hc
    have hKL : KeepB ks W (w7.setCell ⟨w.heap.size, 0, none⟩ v') := by
      intro k hk
      obtain ⟨h1, h2⟩ := hk7 k hk
      exact hlater k (by omega) (by omega) (fun e => by have := (hlt' _ e).1; omega)
    have hvs : ∃ va vn vc, v' = .slice va vn vc := by
      obtain ⟨_, ⟨e, _⟩ | ⟨g', cap, cur, e, _⟩⟩ := ho7.own
      · exact ⟨_, _, _, e⟩
      · exact ⟨_, _, _, e⟩
    have hT8 : (T ++ [((rf, rc), W.heap.size)]).map (·.1) = (pre ++ [(⟨(rf, rc), hrx⟩ : Run)]).map (·.1) := by rw [List.map_append, List.map_append, hT]; rfl
    have F : Hid _ := And.intro hKF (And.intro hKL (show NsI w x6.heap.size ((pre ++ [(⟨(rf, rc), hrx⟩ : Run)]).map (·.1)) (w7.setCell ⟨w.heap.size, 0, none⟩ v') from ⟨_, v', hT8, hB8, ho8, hb8, Nat.le_trans hlo hs8⟩))
    clear hKF hKL hT8 hB8 ho8 hb8 hs8 hlater hB7 hb7 hne hlt' hO hb hB b12 P12 P2 hT ho7 hg7 hat H0 HB c1
    obtain ⟨va, vn, vc, rfl⟩ := hvs
    gi_wp2_with fail
    exact F.out
  case done =>
    rintro D ys W hD hys ⟨T, v, hT, hB, hO, hb, hlo⟩ hdf
    have c1 := hB.cell (by simp [maxLen]) 0 (by simp)
    simp only [List.getElem?_cons_zero] at c1
    rw [hys] at hT
    have hlD : D < W.heap.size := (Array.getElem?_eq_some_iff.1 hdf).1
    have F : Hid _ := And.intro hb (And.intro hdf (And.intro hD (And.intro hz6 (And.intro hT hO))))
    clear hb hdf hsq hys hB hD hT hO hlD
    go_wp2_with fail
    refine ⟨by simp, .inl ⟨_, _, rfl, run_takeDeferred F.out.2.1, ?_⟩⟩
    obtain ⟨hb, hdf, hD, hz, hT, hO⟩ := F.out
    refine ⟨_, results_tmp rfl _ _ _, _, rfl, T, hT, ?_, hb.trans (belowK_b (w := w) (Nat.le_refl _) W D _ _ (Nat.le_trans hz6 hD) hdf rfl rfl)⟩
    refine (hO.low hz6).kept (row := some D) (grownBy_putObj' W D _) (fun q hq e => ?_) (fun p hp e => ?_)
    · obtain ⟨cur, hcur⟩ := hO.row_cells hq
      cases e; rw [hcur] at hdf; cases hdf
    · cases e
      exact blk_not (hO.each p hp).2 hdf rfl
  case stop =>
    rintro D c pre W _ _ h _
    exact h.elim
end Go.Proofs.Ytmkacgdbmojomaa

/- extent: the runs of an image, and how many blocks they hold; no Go. -/
namespace Go.Proofs.Ytmkacgdbmojomaa
open Go.RowKit
set_option linter.unusedVariables false

/-- runs rise, none touches the next, each is all there and ends where nothing is -/
structure RnOk (m : Im) (k : Nat) (l : List (Nat × Nat)) : Prop where
  each : ∀ r ∈ l, 1 ≤ r.2 ∧ r.1 + r.2 ≤ k ∧ (∀ j : Nat, r.1 ≤ j → j < r.1 + r.2 → m.has (j : Int) = true) ∧ (r.1 + r.2 < k → m.has ((r.1 + r.2 : Nat) : Int) = false)
  rise : l.Pairwise (fun a b => a.1 + a.2 < b.1)
theorem rn_ok (m : Im) (k : Nat) : RnOk m k (rnN m k) := by
  induction k with
  | zero => exact ⟨(fun r h => by cases h), .nil⟩
  | succ k ih =>
    rw [rnN_succ]
    by_cases h1 : m.has (k : Int) = true
    · rw [if_pos h1]
      by_cases h2 : m.has ((k : Int) - 1) = true
      · rw [if_pos h2]
        obtain ⟨A, f, c, e, hk, hc⟩ := rn_last m k h2
        rw [e, bump_snoc]
        rw [e] at ih
        obtain ⟨hp1, hp2, hp3⟩ := List.pairwise_append.1 ih.rise
        refine ⟨fun r hr => ?_, List.pairwise_append.2 ⟨hp1, List.pairwise_singleton _ _, fun a ha b hb => ?_⟩⟩
        · rcases List.mem_append.1 hr with hA | hA
          · obtain ⟨q1, q2, q3, q4⟩ := ih.each r (List.mem_append_left _ hA)
            have := hp3 r hA (f, c) (List.mem_singleton.2 rfl)
            simp only at this
            exact ⟨q1, by omega, q3, fun _ => q4 (by omega)⟩
          · rw [List.mem_singleton.1 hA]
            obtain ⟨q1, q2, q3, q4⟩ := ih.each (f, c) (List.mem_append_right _ (List.mem_singleton.2 rfl))
            simp only at q1 q2 q3 q4 ⊢
            refine ⟨by omega, by omega, fun j j1 j2 => ?_, fun h => by omega⟩
            by_cases hj : j = k
            · rw [hj]; exact h1
            · exact q3 j j1 (by omega)
        · rw [List.mem_singleton.1 hb]
          exact hp3 a ha (f, c) (List.mem_singleton.2 rfl)
      · rw [if_neg h2]
        have hlt : ∀ r ∈ rnN m k, r.1 + r.2 < k := fun r hr => by
          obtain ⟨q1, q2, q3, q4⟩ := ih.each r hr
          rcases Nat.lt_or_ge (r.1 + r.2) k with h | h
          · exact h
          · exact absurd (by have := q3 (k - 1) (by omega) (by omega); rwa [show ((k - 1 : Nat) : Int) = (k : Int) - 1 by omega] at this) h2
        refine ⟨fun r hr => ?_, List.pairwise_append.2 ⟨ih.rise, List.pairwise_singleton _ _, fun a ha b hb => ?_⟩⟩
        · rcases List.mem_append.1 hr with hA | hA
          · obtain ⟨q1, q2, q3, q4⟩ := ih.each r hA
            exact ⟨q1, by omega, q3, fun _ => q4 (hlt r hA)⟩
          · rw [List.mem_singleton.1 hA]
            refine ⟨by omega, by simp only; omega, fun j j1 j2 => ?_, fun h => by simp only at h; omega⟩
            simp only at j1 j2
            rw [show j = k by omega]; exact h1
        · rw [List.mem_singleton.1 hb]
          exact hlt a ha
    · rw [if_neg h1]
      refine ⟨fun r hr => ?_, ih.rise⟩
      obtain ⟨q1, q2, q3, q4⟩ := ih.each r hr
      refine ⟨q1, by omega, q3, fun _ => ?_⟩
      rcases Nat.lt_or_ge (r.1 + r.2) k with h | h
      · exact q4 h
      · rw [show r.1 + r.2 = k by omega]; simpa using h1
/-- how many the first i runs hold -/
def cntR (l : List (Nat × Nat)) (i : Nat) : Nat := (expand (l.take i)).length
theorem cntR_zero (l : List (Nat × Nat)) : cntR l 0 = 0 := rfl
theorem cntR_step (l : List (Nat × Nat)) (i : Nat) (hi : i < l.length) : cntR l (i + 1) = cntR l i + l[i].2 := by
  unfold cntR
  rw [← List.take_append_getElem hi, expand_snoc, List.length_append, List.length_range']
theorem cntR_le (l : List (Nat × Nat)) (i : Nat) : cntR l i ≤ cntR l l.length := by
  unfold cntR expand
  rw [List.take_length]
  conv => rhs; rw [← List.take_append_drop i l, List.flatMap_append, List.length_append]
  omega
/-- where the run ahead of i ends, or -1 -/
def lastR (l : List (Nat × Nat)) : Nat → Int
  | 0 => -1
  | i + 1 => match l[i]? with | some r => ((r.1 + r.2 : Nat) : Int) | none => -1
theorem lastR_step (l : List (Nat × Nat)) (i : Nat) (hi : i < l.length) : lastR l (i + 1) = ((l[i].1 + l[i].2 : Nat) : Int) := by
  simp only [lastR, List.getElem?_eq_getElem hi]
theorem lastR_lt {m : Im} {k : Nat} {l : List (Nat × Nat)} (h : RnOk m k l) (i : Nat) (hi : i < l.length) : lastR l i < (l[i].1 : Int) := by
  cases i with
  | zero => show (-1 : Int) < _; omega
  | succ i =>
    rw [lastR_step l i (by omega)]
    have := List.pairwise_iff_getElem.1 h.rise i (i + 1) (by omega) hi (by omega)
    omega
theorem has_used (m : Im) : ((List.range m.n).filter (fun i : Nat => m.has (i : Int))).length = m.used := by
  unfold Im.used
  congr 1
theorem cntR_all (m : Im) : cntR (rnN m m.n) (rnN m m.n).length = m.used := by
  unfold cntR
  rw [List.take_length, expand_rn, has_used]
def cntH (m : Im) (k : Nat) : Nat := ((List.range k).filter (fun i : Nat => m.has (i : Int))).length
theorem cntH_step (m : Im) (k : Nat) : cntH m (k + 1) = cntH m k + (if m.has (k : Int) = true then 1 else 0) := by
  unfold cntH
  rw [List.range_succ, List.filter_append, List.length_append]
  congr 1
  by_cases h : m.has (k : Int) = true <;> simp [h]
theorem cntH_le (m : Im) (k : Nat) : cntH m k ≤ k := by
  unfold cntH
  exact Nat.le_trans (List.length_filter_le _ _) (by simp)
/-- all that is said of the run i -/
theorem rn_at {m : Im} (hw : m.Wf) (i : Nat) (hi : i < (rnN m m.n).length) :
    1 ≤ (rnN m m.n)[i].2 ∧ (rnN m m.n)[i].1 + (rnN m m.n)[i].2 ≤ 256 ∧ lastR (rnN m m.n) i < ((rnN m m.n)[i].1 : Int) ∧ (∀ j : Nat, (rnN m m.n)[i].1 ≤ j → j < (rnN m m.n)[i].1 + (rnN m m.n)[i].2 → m.has (j : Int) = true) ∧ m.has (((rnN m m.n)[i].1 + (rnN m m.n)[i].2 : Nat) : Int) = false := by
  have h := rn_ok m m.n
  obtain ⟨q1, q2, q3, q4⟩ := h.each _ (List.getElem_mem hi)
  refine ⟨q1, Nat.le_trans q2 hw.most, lastR_lt h i hi, q3, ?_⟩
  rcases Nat.lt_or_ge ((rnN m m.n)[i].1 + (rnN m m.n)[i].2) m.n with h1 | h1
  · exact q4 h1
  · generalize (rnN m m.n)[i].1 + (rnN m m.n)[i].2 = x at *
    cases hf : m.f x with
    | none => unfold Im.has; simp [hf]
    | some l => have := (hw.each x l hf).1; omega
/-- where the run i lies -/
theorem ns_at {w : World} {base : Nat} {v : Value} {T : List Tn} {l : List (Nat × Nat)} (h : NsOwn w base v T) (hT : T.map (·.1) = l) : ∃ a cap, v = .slice a l.length cap ∧ l.length ≤ cap ∧ ∀ i (hi : i < l.length), ∃ q k, a = some ⟨q, 0, none⟩ ∧ w.cell? ⟨q, i, none⟩ = some (.slice (some ⟨k, 0, none⟩) 2 2) ∧ w.cell? ⟨k, 0, none⟩ = some (.int .i64 (l[i].1 : Int)) ∧ w.cell? ⟨k, 1, none⟩ = some (.int .i64 (l[i].2 : Int)) := by
  subst hT
  obtain ⟨h1, ⟨h2, h3⟩ | ⟨g, cap, cur, rfl, hb, hh, hc, hm, hs, ht⟩⟩ := h.own
  · refine ⟨none, 0, by rw [h2, List.length_map, h3], by rw [List.length_map]; omega, fun i hi => ?_⟩
    rw [List.length_map] at hi; omega
  · refine ⟨_, cap, by rw [List.length_map], by rw [List.length_map]; exact hc, fun i hi => ?_⟩
    rw [List.length_map] at hi
    obtain ⟨e1, e2⟩ := h.each _ (List.getElem_mem hi)
    refine ⟨g, T[i].2, rfl, ?_, ?_, ?_⟩
    · rw [World.ownsRow.cellAt h.own i (by omega)]
      unfold nsV
      rw [List.getElem?_map, List.getElem?_eq_getElem hi]; rfl
    · have := e2.cell (by simp [maxLen]) 0 (by simp)
      simpa using this
    · have := e2.cell (by simp [maxLen]) 1 (by simp)
      simpa using this
end Go.Proofs.Ytmkacgdbmojomaa

/- extent: bytes as an image; no Go. -/
namespace Go.Proofs.Ytmkacgdbmojomaa
open Go.RowKit
set_option linter.unusedVariables false

/-- a number of two bytes at the front -/
def n2 (L : List (BitVec 8)) : Nat := (numTo L 0 2).toNat
theorem num_lt0 : ∀ (l : List (BitVec 8)) (acc : BitVec 64) (k : Nat), acc.toNat < 2 ^ (8 * k) → k + l.length ≤ 8 → (l.foldl (fun (n : BitVec 64) (c : BitVec 8) => (n <<< 8) ||| c.setWidth 64) acc).toNat < 2 ^ (8 * (k + l.length))
  | [], acc, k, h, _ => by simpa using h
  | c :: x, acc, k, h, hk => by
    rw [List.foldl_cons, List.length_cons, show k + (x.length + 1) = (k + 1) + x.length by omega]
    rw [List.length_cons] at hk
    refine num_lt0 x _ (k + 1) ?_ (by omega)
    rw [BitVec.toNat_or]
    have e : (2 : Nat) ^ (8 * (k + 1)) = 2 ^ (8 * k) * 256 := by rw [show 8 * (k + 1) = 8 * k + 8 by omega, Nat.pow_add]
    refine Nat.or_lt_two_pow ?_ ?_
    · rw [BitVec.toNat_shiftLeft, Nat.shiftLeft_eq]
      refine Nat.lt_of_le_of_lt (Nat.mod_le _ _) ?_
      rw [e]; omega
    · rw [BitVec.toNat_setWidth]
      refine Nat.lt_of_le_of_lt (Nat.mod_le _ _) ?_
      have := c.isLt
      have h1 : 1 ≤ (2 : Nat) ^ (8 * k) := Nat.one_le_two_pow
      rw [e]; omega
theorem n2_lt (L : List (BitVec 8)) : n2 L < 65536 := by
  unfold n2 numTo num
  have hl : ((L.drop 0).take 2).length ≤ 2 := by rw [List.length_take]; omega
  have h := num_lt0 ((L.drop 0).take 2) 0#64 0 (by simp) (by omega)
  refine Nat.lt_of_lt_of_le h ?_
  exact Nat.le_trans (Nat.pow_le_pow_right (by omega) (show 8 * (0 + ((L.drop 0).take 2).length) ≤ 16 by omega)) (by decide)
theorem ofInt_nat (n : Nat) (h : n < 65536) : (BitVec.ofInt 64 (n : Int)).toNat = n := by
  rw [BitVec.ofInt_natCast, BitVec.toNat_ofNat]; omega
theorem n2_be (n : Nat) (h : n < 65536) (X : List (BitVec 8)) : n2 (be 2 (BitVec.ofInt 64 (n : Int)) ++ X) = n := by
  unfold n2 numTo
  have hl := be_length 2 (BitVec.ofInt 64 (n : Int)) (by omega)
  rw [List.drop_zero, List.take_append_of_le_length (by omega), List.take_of_length_le (by omega), num_be 2 (by omega), ofInt_nat n h]
  unfold fitsB
  rw [decide_eq_true_eq, ofInt_nat n h]
  omega
theorem be_n2 (L : List (BitVec 8)) (h : 2 ≤ L.length) : be 2 (BitVec.ofInt 64 (n2 L : Int)) = L.take 2 := by
  have e : BitVec.ofInt 64 (n2 L : Int) = num (L.take 2) := by
    apply BitVec.eq_of_toNat_eq
    rw [ofInt_nat _ (n2_lt L)]
    unfold n2 numTo
    rw [List.drop_zero]
  rw [e]
  exact be_num 2 _ (by rw [List.length_take]; omega) (by omega)
/-- so many blocks are read, behind the number last -/
def ldL : Nat → Int → Im → List (BitVec 8) → Int × Im
  | 0, _, m, L => if 0 < L.length then (11, m) else (0, m)
  | k + 1, last, m, L => if L.length < 66 then (10, m) else if (n2 L : Int) ≤ last ∨ m.n ≤ n2 L then (11, m) else ldL k (n2 L) (putI m (n2 L) (some ((L.drop 2).take 64))) (L.drop 66)
/-- bytes as an image: its error and the image -/
def ldM (L : List (BitVec 8)) : Int × Im :=
  if L.length < 4 then (10, im0 0) else if n2 L < 1 ∨ 256 < n2 L then (1, im0 0) else ldL (n2 (L.drop 2)) (-1) (im0 (n2 L)) (L.drop 4)
theorem ldL_err (k : Nat) (last : Int) (m : Im) (L : List (BitVec 8)) : (ldL k last m L).1 = 0 ∨ (ldL k last m L).1 = 10 ∨ (ldL k last m L).1 = 11 := by
  induction k generalizing last m L with
  | zero => unfold ldL; split <;> simp
  | succ k ih =>
    unfold ldL
    split
    · simp
    · split
      · simp
      · exact ih _ _ _
theorem ldM_err (L : List (BitVec 8)) : (ldM L).1 = 0 ∨ (ldM L).1 = 1 ∨ (ldM L).1 = 10 ∨ (ldM L).1 = 11 := by
  unfold ldM
  split
  · simp
  · split
    · simp
    · have := ldL_err (n2 (L.drop 2)) (-1) (im0 (n2 L)) (L.drop 4)
      omega
theorem ldL_wf (k : Nat) (last : Int) (m : Im) (L : List (BitVec 8)) (h : m.Wf) : (ldL k last m L).2.Wf ∧ (ldL k last m L).2.n = m.n := by
  induction k generalizing last m L with
  | zero => unfold ldL; split <;> exact ⟨h, rfl⟩
  | succ k ih =>
    unfold ldL
    split
    · exact ⟨h, rfl⟩
    · split
      · exact ⟨h, rfl⟩
      · rename_i h1 h2
        have hw : (putI m (n2 L) (some ((L.drop 2).take 64))).Wf := putI_wf h (by omega) (fun l e => by cases e; rw [List.length_take, List.length_drop]; omega)
        exact ⟨(ih _ _ _ hw).1, (ih _ _ _ hw).2⟩
theorem ldM_wf {L : List (BitVec 8)} (h : (ldM L).1 = 0) : (ldM L).2.Wf := by
  unfold ldM at *
  split at h
  · cases h
  · split at h
    · cases h
    · rename_i h1 h2
      rw [if_neg h1, if_neg h2]
      exact (ldL_wf _ _ _ _ ⟨by show 1 ≤ n2 L; omega, by show n2 L ≤ 256; omega, fun k l e => by cases e⟩).1
theorem encAll_put (m : Im) (i : Nat) (v : Option (List (BitVec 8))) (ks : List Nat) (h : i ∉ ks) : encAll (putI m i v) ks = encAll m ks := by
  induction ks with
  | nil => rfl
  | cons k ks ih =>
    have e : (putI m i v).get (k : Int) = m.get (k : Int) := by
      unfold Im.get putI
      simp only [Int.toNat_natCast]
      rw [if_neg (show ¬ k = i from fun e => h (by rw [e]; simp))]
    have ih := ih (fun h2 => h (List.mem_cons_of_mem _ h2))
    unfold encAll at *
    rw [List.flatMap_cons, List.flatMap_cons, ih, e]
theorem has_putI (m : Im) (i j : Nat) (v : Option (List (BitVec 8))) : (putI m i v).has (j : Int) = if j = i then v.isSome else m.has (j : Int) := by
  unfold Im.has putI
  simp only [Int.toNat_natCast]
  by_cases h : j = i <;> simp [h]
theorem has_nat (m : Im) (j : Nat) : m.has (j : Int) = (m.f j).isSome := by
  unfold Im.has; simp
/-- the numbers that are there, below c -/
def hs (m : Im) (c : Nat) : List Nat := (List.range c).filter (fun i : Nat => m.has (i : Int))
theorem hs_more (m : Im) (c d : Nat) (h : ∀ j, c ≤ j → m.f j = none) : hs m (c + d) = hs m c := by
  induction d with
  | zero => rfl
  | succ d ih =>
    unfold hs at *
    rw [← Nat.add_assoc, List.range_succ, List.filter_append, ih, List.filter_cons_of_neg (by rw [has_nat, h _ (by omega)]; decide)]
    simp
theorem hs_put (m : Im) (c i : Nat) (l : List (BitVec 8)) (h : ∀ j, c ≤ j → m.f j = none) (hi : c ≤ i) : hs (putI m i (some l)) (i + 1) = hs m c ++ [i] := by
  have e := hs_more m c (i - c) h
  rw [show c + (i - c) = i by omega] at e
  rw [← e]
  unfold hs
  rw [List.range_succ, List.filter_append, List.filter_cons_of_pos (by rw [has_putI, if_pos rfl]; rfl), List.filter_nil]
  congr 1
  refine List.filter_congr fun j hj => ?_
  rw [has_putI, if_neg (by have := List.mem_range.1 hj; omega)]
theorem hs_lt {m : Im} {c j : Nat} (h : j ∈ hs m c) : j < c := List.mem_range.1 (List.mem_filter.1 h).1
/-- what was read is written as the same bytes -/
theorem ldL_back (k : Nat) (c : Nat) (m : Im) (L : List (BitVec 8)) (m' : Im) (hm : ∀ j, c ≤ j → m.f j = none) (hc : c ≤ m.n) (h : ldL k ((c : Int) - 1) m L = (0, m')) :
    m'.n = m.n ∧ encAll m' (hs m' m'.n) = encAll m (hs m c) ++ L ∧ (hs m' m'.n).length = (hs m c).length + k := by
  induction k generalizing c m L with
  | zero =>
    unfold ldL at h
    split at h
    · cases h
    · rename_i h0
      simp only [Prod.mk.injEq, true_and] at h
      subst h
      have hL : L = [] := List.eq_nil_of_length_eq_zero (by omega)
      have e := hs_more m c (m.n - c) hm
      rw [show c + (m.n - c) = m.n by omega] at e
      rw [e, hL]
      exact ⟨rfl, by simp, rfl⟩
  | succ k ih =>
    unfold ldL at h
    split at h
    · cases h
    · split at h
      · cases h
      · rename_i h1 h2
        have hi : c ≤ n2 L := by omega
        have hl : ((L.drop 2).take 64).length = 64 := by rw [List.length_take, List.length_drop]; omega
        have h3 := ih (n2 L + 1) (putI m (n2 L) (some ((L.drop 2).take 64))) (L.drop 66) (fun j hj => by show (if j = n2 L then _ else m.f j) = none; rw [if_neg (by omega)]; exact hm j (by omega)) (by show n2 L + 1 ≤ m.n; omega) (by rw [show ((n2 L + 1 : Nat) : Int) - 1 = (n2 L : Int) by omega]; exact h)
        obtain ⟨q1, q2, q3⟩ := h3
        rw [hs_put m c _ _ hm hi] at q2 q3
        refine ⟨q1, ?_, ?_⟩
        · rw [q2, encAll_append, encAll_put m _ _ _ (fun h => by have := hs_lt h; omega), List.append_assoc]
          congr 1
          have e1 : encAll (putI m (n2 L) (some ((L.drop 2).take 64))) [n2 L] = L.take 2 ++ (L.drop 2).take 64 := by
            unfold encAll
            rw [List.flatMap_cons, List.flatMap_nil, List.append_nil, be_n2 L (by omega)]
            congr 1
            unfold Im.get putI
            simp
          rw [e1, List.append_assoc, show L.drop 66 = (L.drop 2).drop 64 by rw [List.drop_drop], List.take_append_drop, List.take_append_drop]
        · rw [q3, List.length_append, List.length_singleton]; omega
theorem ldM_back {L : List (BitVec 8)} (h : (ldM L).1 = 0) : bytesM (ldM L).2 = L := by
  unfold ldM at *
  split at h
  · cases h
  · split at h
    · cases h
    · rename_i h1 h2
      rw [if_neg h1, if_neg h2]
      obtain ⟨m', e⟩ : ∃ m', ldL (n2 (L.drop 2)) (-1) (im0 (n2 L)) (L.drop 4) = (0, m') := ⟨_, Prod.ext h rfl⟩
      rw [e]
      obtain ⟨q1, q2, q3⟩ := ldL_back _ 0 _ _ m' (fun _ _ => rfl) (by show 0 ≤ n2 L; omega) e
      have e0 : hs (im0 (n2 L)) 0 = [] := rfl
      rw [e0] at q2 q3
      simp only [List.length_nil, Nat.zero_add] at q3
      have hn : m'.n = n2 L := q1
      unfold bytesM headE
      rw [expand_rn, ← has_used m']
      show (be 2 (BitVec.ofInt 64 (m'.n : Int)) ++ be 2 (BitVec.ofInt 64 ((hs m' m'.n).length : Int))) ++ encAll m' (hs m' m'.n) = L
      rw [q2, q3, hn, be_n2 L (by omega), be_n2 (L.drop 2) (by rw [List.length_drop]; omega)]
      show (List.take 2 L ++ List.take 2 (List.drop 2 L)) ++ (encAll _ [] ++ List.drop 4 L) = L
      rw [show encAll (im0 (n2 L)) [] = [] from rfl, List.nil_append, List.append_assoc, show L.drop 4 = (L.drop 2).drop 2 by rw [List.drop_drop], List.take_append_drop, List.take_append_drop]
theorem im_ext' {a b : Im} (hn : a.n = b.n) (hf : ∀ j, a.f j = b.f j) : a = b := by
  cases a; cases b
  simp only at hn hf
  subst hn
  congr 1
  exact funext hf
/-- what was written is read as the same image -/
theorem ldL_enc {M : Im} (hM : M.Wf) (ks : List Nat) (last : Int) (m : Im) (hn : m.n = M.n) (hp : ks.Pairwise (· < ·)) (hlo : ∀ k ∈ ks, last < (k : Int)) (hk : ∀ k ∈ ks, (M.f k).isSome = true) :
    ldL ks.length last m (encAll M ks) = (0, ⟨M.n, fun j => if j ∈ ks then M.f j else m.f j⟩) := by
  induction ks generalizing last m with
  | nil =>
    show (if 0 < (encAll M []).length then _ else _) = _
    rw [if_neg (by show ¬ (0 < 0); omega)]
    refine Prod.ext rfl ?_
    exact im_ext' hn (fun j => by simp)
  | cons k ks ih =>
    obtain ⟨l, hl⟩ := Option.isSome_iff_exists.1 (hk k (by simp))
    obtain ⟨hk1, hl64⟩ := hM.each k l hl
    have hm := hM.most
    have hp' := List.pairwise_cons.1 hp
    have hg : M.get (k : Int) = l := by unfold Im.get; rw [if_pos (by omega), Int.toNat_natCast, hl]; rfl
    have eE : encAll M (k :: ks) = be 2 (BitVec.ofInt 64 (k : Int)) ++ (l ++ encAll M ks) := by
      unfold encAll
      rw [List.flatMap_cons, hg, List.append_assoc]
    have hb := be_length 2 (BitVec.ofInt 64 (k : Int)) (by omega)
    have hlen : (encAll M (k :: ks)).length = 2 + (64 + (encAll M ks).length) := by rw [eE, List.length_append, hb, List.length_append, hl64]
    have hn2 : n2 (encAll M (k :: ks)) = k := by rw [eE, n2_be k (by omega)]
    have hlo' := hlo k (by simp)
    show ldL (ks.length + 1) last m (encAll M (k :: ks)) = _
    unfold ldL
    rw [if_neg (by omega), hn2, if_neg (by omega)]
    have e2 : (encAll M (k :: ks)).drop 2 = l ++ encAll M ks := by rw [eE, List.drop_append_of_le_length (by omega), List.drop_of_length_le (by omega), List.nil_append]
    have e3 : ((encAll M (k :: ks)).drop 2).take 64 = l := by rw [e2, List.take_append_of_le_length (by omega), List.take_of_length_le (by omega)]
    have e4 : (encAll M (k :: ks)).drop 66 = encAll M ks := by rw [show 66 = 2 + 64 by omega, ← List.drop_drop, e2, List.drop_append_of_le_length (by omega), List.drop_of_length_le (by omega), List.nil_append]
    rw [e3, e4, ih (k : Int) (putI m k (some l)) hn hp'.2 (fun k' hk' => by have := hp'.1 k' hk'; omega) (fun k' hk' => hk k' (List.mem_cons_of_mem _ hk'))]
    refine Prod.ext rfl ?_
    refine im_ext' rfl (fun j => ?_)
    show (if j ∈ ks then M.f j else (if j = k then some l else m.f j)) = if j ∈ k :: ks then M.f j else m.f j
    by_cases h1 : j ∈ ks
    · rw [if_pos h1, if_pos (List.mem_cons_of_mem _ h1)]
    · by_cases h2 : j = k
      · rw [if_neg h1, if_pos h2, if_pos (by rw [h2]; simp), h2, hl]
      · rw [if_neg h1, if_neg h2, if_neg (by rw [List.mem_cons]; exact fun h => h.elim h2 h1)]
theorem ldM_bytes {m : Im} (h : m.Wf) : ldM (bytesM m) = (0, m) := by
  have h1 := h.one
  have h2 := h.most
  have h3 := m.used_le
  have hb1 := be_length 2 (BitVec.ofInt 64 (m.n : Int)) (by omega)
  have hb2 := be_length 2 (BitVec.ofInt 64 (m.used : Int)) (by omega)
  have e0 : bytesM m = be 2 (BitVec.ofInt 64 (m.n : Int)) ++ (be 2 (BitVec.ofInt 64 (m.used : Int)) ++ encAll m (hs m m.n)) := by
    unfold bytesM headE
    rw [expand_rn, List.append_assoc]; rfl
  have hn : n2 (bytesM m) = m.n := by rw [e0, n2_be _ (by omega)]
  have ed : (bytesM m).drop 2 = be 2 (BitVec.ofInt 64 (m.used : Int)) ++ encAll m (hs m m.n) := by rw [e0, List.drop_append_of_le_length (by omega), List.drop_of_length_le (by omega), List.nil_append]
  have hk : n2 ((bytesM m).drop 2) = (hs m m.n).length := by rw [ed, n2_be _ (by omega)]; exact (has_used m).symm
  have e4 : (bytesM m).drop 4 = encAll m (hs m m.n) := by rw [show 4 = 2 + 2 by omega, ← List.drop_drop, ed, List.drop_append_of_le_length (by omega), List.drop_of_length_le (by omega), List.nil_append]
  have hlen : 4 ≤ (bytesM m).length := by rw [e0, List.length_append, List.length_append]; omega
  unfold ldM
  rw [if_neg (by omega), hn, if_neg (by omega), hk, e4, ldL_enc h (hs m m.n) (-1) (im0 m.n) rfl (List.Pairwise.filter _ (List.pairwise_lt_range)) (fun k _ => by omega) (fun k hk => by have := (List.mem_filter.1 hk).2; rwa [has_nat] at this)]
  refine Prod.ext rfl (im_ext' rfl (fun j => ?_))
  show (if j ∈ hs m m.n then m.f j else none) = m.f j
  by_cases hj : j ∈ hs m m.n
  · rw [if_pos hj]
  · rw [if_neg hj]
    cases hf : m.f j with
    | none => rfl
    | some l =>
      exact absurd (List.mem_filter.2 ⟨List.mem_range.2 (h.each j l hf).1, by rw [has_nat, hf]; rfl⟩) hj
end Go.Proofs.Ytmkacgdbmojomaa
