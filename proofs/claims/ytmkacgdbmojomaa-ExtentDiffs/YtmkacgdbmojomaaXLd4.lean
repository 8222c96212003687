/- extent: Diff. -/
import Derived.Test.YtmkacgdbmojomaaXLd3
namespace Go.Proofs.Ytmkacgdbmojomaa
open Go.RowKit
set_option linter.unusedVariables false
set_option linter.unusedSimpArgs false
set_option maxRecDepth 8000

set_option maxHeartbeats 1000000 in
theorem imDiff_no (g : Nat) (w : World) : Calls Try.prog 23 #[.pointer (some ⟨g, 0, none⟩), .pointer none] w fun e w' => e = .returned (.tuple #[.slice none 0 0, .int .i64 2]) ∧ w = w' := by
  go_enter Try.func23, Try.ntmps23
  go_wp2
  go_ret2
  exact ⟨rfl, rfl⟩
set_option maxHeartbeats 4000000 in
theorem imDiff_size (g1 b1 : Nat) (m1 : Im) (g2 b2 : Nat) (m2 : Im) (w : World) (h1 : (im g1 b1 m1).Ok w) (h2 : (im g2 b2 m2).Ok w) (hn : m1.n ≠ m2.n) : Calls Try.prog 23 #[.pointer (some ⟨g1, 0, none⟩), .pointer (some ⟨g2, 0, none⟩)] w fun e w' => e = .returned (.tuple #[.slice none 0 0, .int .i64 1]) ∧ Below w.heap.size w w' := by
  obtain ⟨c1, -⟩ := im_cells h1
  obtain ⟨c2, -⟩ := im_cells h2
  have hn1 : ¬ ((m1.n : Int) = (m2.n : Int)) := by omega
  have hn2 : ¬ ((m2.n : Int) = (m1.n : Int)) := by omega
  clear h1 h2
  go_enter Try.func23, Try.ntmps23
  go_wp2_with fail
  go_quiet (fail)
  go_wp2
  go_ret2
  exact ⟨rfl, below_drewN _ _ _⟩
set_option maxHeartbeats 16000000 in
theorem imDiff_any (g1 b1 : Nat) (m1 : Im) (g2 b2 : Nat) (m2 : Im) (w : World) (h1 : (im g1 b1 m1).Ok w) (h2 : (im g2 b2 m2).Ok w) (hw1 : m1.Wf) (hw2 : m2.Wf) (hn : m2.n = m1.n) :
    Calls Try.prog 23 #[.pointer (some ⟨g1, 0, none⟩), .pointer (some ⟨g2, 0, none⟩)] w fun e w' => DfR (dfM m1 m2 m1.n) w e w' := by
  obtain ⟨c1, -⟩ := im_cells h1
  obtain ⟨c2, -⟩ := im_cells h2
  rw [hn] at c2
  have hm := hw1.most
  have HP : Hid _ := And.intro h1 (And.intro h2 (And.intro hw1 (And.intro hw2 hn)))
  clear h1 h2 hw1 hw2
  generalize hN : m1.n = N at *
  go_enter Try.func23, Try.ntmps23
  go_wp2_with fail
  go_quiet (fail)
  go_wp2_with fail
  go_loopw [6, 27] (fun ov iv wr => ∃ (k : Nat) (T : List Tc) (v : Value), v = ov ∧ k ≤ N ∧ iv = .int .i64 k ∧ T.map (·.1) = dfM m1 m2 k ∧ CsOwn wr w.heap.size v T ∧ Below w.heap.size w wr) (fun _ iv _ => N - (intOf iv).toNat)
  case atStart => exact ⟨0, [], _, rfl, Nat.zero_le _, rfl, rfl, CsOwn.nil _ _, below_drewN _ _ _⟩
  case round =>
    obtain ⟨k, T, v, rfl, hk, rfl, hT, hown, hb⟩ := hrel
    by_cases hlt : k < N
    · have q1 : (k : Int) < (N : Int) := by omega
      have HX : Hid _ := And.intro hT (And.intro hown hb)
      clear hT hown hb
      have hag := imAgrees_any g1 b1 m1 g2 b2 m2 k wr (HP.out.1.later HX.out.2.2) (HP.out.2.1.later HX.out.2.2) HP.out.2.2.1 HP.out.2.2.2.1 (by omega)
      have HAg : Hid _ := hag
      clear hag
      go_wp2_with fail
      refine (Calls.mono HAg.out) ?_
      rintro e x1 ⟨rfl, b1'⟩
      clear HAg
      by_cases heq : m1.by k = m2.by k
      · have hd : decide (m1.by k = m2.by k) = true := decide_eq_true heq
        rw [hd]
        have F : Hid _ := And.intro (show T.map (·.1) = dfM m1 m2 (k + 1) by rw [dfM, if_pos heq, List.append_nil]; exact HX.out.1) (And.intro (HX.out.2.1.later b1') (below_then HX.out.2.2 b1'))
        clear heq hd b1' HX
        go_wp2
        go_roundw
        case rel => exact ⟨k + 1, T, v, rfl, by omega, by go_num, F.out.1, F.out.2.1, F.out.2.2⟩
        case measure => simp [intOf]; omega
      · have hd : decide (m1.by k = m2.by k) = false := decide_eq_false heq
        rw [hd]
        have hct := imChangeTo_any g2 b2 m2 k x1 ((HP.out.2.1.later HX.out.2.2).later b1') HP.out.2.2.2.1 (by omega)
        have HC : Hid _ := hct
        have HStep : Hid (dfM m1 m2 (k + 1) = dfM m1 m2 k ++ [((k : Int), m2.by k)]) := by unfold Hid; rw [dfM, if_neg heq]
        have HY : Hid _ := And.intro (HX.out.2.1.later b1') (below_then HX.out.2.2 b1')
        clear hct hd heq b1'
        go_wp2_with fail
        refine (Calls.mono HC.out) ?_
        rintro e x2 ⟨v2, rfl, ho2, b2'⟩
        clear HC
        have hlo2 := World.ownsRow.lt ho2
        have hlv := World.ownsRow.lt HY.out.1.own
        have hwr := HY.out.2.size
        have hlp := fun (p' : Tc) (hp : p' ∈ T) => World.ownsRow.lt (HY.out.1.each p' hp)
        obtain ⟨xa, xc, e2, -⟩ := ho2.open
        subst e2
        have bA : Below x2.heap.size x2 (x2.alloc (.cells #[.int .i64 (k : Int), .slice xa (m2.by k).length xc] 57)) := (Below.refl _ _).alloc (Nat.le_refl _) _
        have BA : Blk (x2.alloc (.cells #[.int .i64 (k : Int), .slice xa (m2.by k).length xc] 57)) x2.heap.size 57 [.int .i64 (k : Int), .slice xa (m2.by k).length xc] := Blk.new' x2 _ _
        have bbA := below_then b2' bA
        have hO : Own (x2.alloc (.cells #[.int .i64 (k : Int), .slice xa (m2.by k).length xc] 57)) w.heap.size (.slice xa (m2.by k).length xc) (m2.by k) := (own_base ho2 hwr).later bA
        have hfar : ∀ q, (Value.slice xa (m2.by k).length xc).ownBlock = some q → v.ownBlock ≠ some q ∧ ∀ p' ∈ T, p'.2.ownBlock ≠ some q := fun q hq => ⟨fun e => by have := (hlv q e).2; have := (hlo2 q hq).1; omega, fun p' hp e => by have := (hlp p' hp q e).2; have := (hlo2 q hq).1; omega⟩
        have hTl : T.length ≤ k := by have h0 := congrArg List.length HX.out.1; rw [List.length_map] at h0; have := dfM_len m1 m2 k; omega
        have HA : Hid _ := And.intro (HY.out.1.later bbA) (And.intro BA (And.intro hO (And.intro hfar (And.intro (Nat.le_trans hwr bbA.size) (And.intro hTl (below_then HY.out.2 bbA))))))
        have HL3 : Hid _ := (fun q hq => (hlv q hq).1)
        clear bA BA bbA hO hfar hTl hlo2 hlv hlp b2' ho2 hwr
        go_wp2_with (at_builtin; refine wpList_append_ch _ rfl _ _ rfl w.heap.size v T rfl HA.out.1 x2.heap.size (((k : Int), m2.by k), Value.slice xa (m2.by k).length xc) (by first | rfl | simp) HA.out.2.1 HA.out.2.2.1 HA.out.2.2.2.1 (by have := HA.out.2.2.2.2.2.1; omega) HA.out.2.2.2.2.1 ?_)
        intro v' w3 hown3 hg3
        have F : Hid _ := And.intro (show (T ++ [(((k : Int), m2.by k), Value.slice xa (m2.by k).length xc)]).map (·.1) = dfM m1 m2 (k + 1) by rw [HStep.out, List.map_append, HX.out.1]; rfl) (And.intro hown3 (HA.out.2.2.2.2.2.2.grown hg3 HA.out.2.2.2.2.2.2.size HL3.out))
        clear hown3 hg3 HA HL3
        go_wp2
        go_roundw
        case rel => exact ⟨k + 1, T ++ [(((k : Int), m2.by k), Value.slice xa (m2.by k).length xc)], v', rfl, by omega, by go_num, F.out.1, F.out.2.1, F.out.2.2⟩
        case measure => simp [intOf]; omega
    · obtain rfl : k = N := by omega
      have q1 : ¬ ((k : Int) < (k : Int)) := by omega
      have F : Hid _ := And.intro hT (And.intro hown hb)
      clear hT hown hb hk hlt
      go_wp2
      refine bodyPost_ret (v := .tuple #[v, .int .i64 0]) (by first | rfl | simp [results, Try.results23, go_sem]) rfl ?_
      exact ⟨v, T, rfl, F.out.1, F.out.2.1, F.out.2.2⟩
end Go.Proofs.Ytmkacgdbmojomaa

