/- The walk of ResvFences. -/
import Derived.Test.YtjokohjdpickoaaXRv22
import Derived.Test.YtjokohjdpickoaaXRvB
import Derived.Test.YtjokohjdpickoaaXDraw
import Derived.Deep.CutRange
namespace Go.Proofs.Ytjokohjdpickoaa
open Go.RowKit Go.Shelf
set_option linter.unusedVariables false
set_option linter.unusedSimpArgs false
set_option maxRecDepth 4000

/-- flags, as an object -/
def hdOb (Q : Nat) (bs : List Bool) : Ob := ⟨[Q], [], fun w => Blk w Q 4 (bs.map .bool)⟩
theorem hdOb_ok {w : World} {Q : Nat} {bs : List Bool} (h : Blk w Q 4 (bs.map .bool)) : (hdOb Q bs).Ok w :=
  ⟨h, (fun k hk => by rcases hk with hk | hk; simp only [hdOb, List.mem_singleton] at hk; subst hk; exact h.lt; cases hk), (fun k _ hv => by cases hv), fun w1 w2 hs h => by
    have e := hs Q (.inl (by simp [hdOb]))
    show Blk w2 Q _ _
    have h' : Blk w1 Q _ _ := h
    unfold Blk at *; rw [e]; exact h'⟩
theorem hdOb_set {w : World} {Q : Nat} {bs : List Bool} (h : (hdOb Q bs).Ok w) (i : Nat) (b : Bool) : Step w (w.setCell ⟨Q, i, none⟩ (.bool b)) (hdOb Q bs) (hdOb Q (bs.set i b)) := by
  have hB : Blk w Q 4 (bs.map .bool) := h.holds
  refine ⟨?_, hdOb_ok ?_, fun k hk => .inl hk, (fun k hk => by cases hk)⟩
  · exact (turned_set w Q i (.bool b)).mono (fun k e => by simp [hdOb, e])
  · have := hB.set i (.bool b)
    rw [List.map_set]; exact this
theorem madeF (N : Nat) : (madeCells #[Value.bool false] N) = (List.replicate N (Value.bool false)).toArray := by
  apply Array.ext
  · simp [madeCells]
  · intro i h1 h2; simp [madeCells, Nat.mod_one]
theorem make_flags (w : World) : (Instr.makeSlice 25 (.int .i64 16) (.int .i64 16)).run Try.prog w = .ok (.slice (some ⟨w.heap.size, 0, none⟩) 16 16) (w.alloc (.cells #[.bool false, .bool false, .bool false, .bool false, .bool false, .bool false, .bool false, .bool false, .bool false, .bool false, .bool false, .bool false, .bool false, .bool false, .bool false, .bool false] 4)) := by
  have hi0 : (Try.prog.info? 4).map (fun i => (i.zero, i.size, i.bytes)) = some (some (.bool false), 1, 1) := by kernel_rfl
  obtain ⟨i0, hi, hz0, hz1, hz2⟩ := info_parts hi0
  have h := run_make (P := Try.prog) w 25 4 i0 (.bool false) Try.underlying25 hi hz0 .i64 .i64 16 16 (by omega) (by omega) (by rw [hz2]; omega) (by omega)
  rw [hz1] at h
  have e := madeF 16
  refine h.trans ?_
  show Result.ok _ (w.alloc (.cells (madeCells #[Value.bool false] 16) _)) = _
  rw [e]
  rfl
theorem FI0 : FI rs0 (List.replicate 16 false) := by
  have hz : ∀ n, n < 16 → kAt rs0 n = 0 ∧ fAt rs0 n = false := fun n hn => by
    have : ∀ j : Fin 16, kAt rs0 j.val = 0 ∧ fAt rs0 j.val = false := by decide
    exact this ⟨n, hn⟩
  have hh : ∀ n, n < 16 → (List.replicate 16 false).getD n false = false := fun n hn => by
    have : ∀ j : Fin 16, (List.replicate 16 false).getD j.val false = false := by decide
    exact this ⟨n, hn⟩
  exact ⟨rfl, fun n hn h => absurd (hz n hn).1 h, (fun n hn h => by rw [hh n hn] at h; cases h), fun n hn _ => hz n hn⟩
set_option maxHeartbeats 16000000 in
theorem resvFences_walk (a : Option Addr) (len cap : Nat) (w : World) (A : Act13Arg w a len cap) :
    Calls Try.prog 3 #[.slice a len cap] w fun e w' => e = .returned (.bool true) ∧ Below w.heap.size w w' := by
  have HA : Hid _ := A
  have hlen : (len : Int) ≤ 140737488355328 := by have := A.few; omega
  clear A
  have HN : Hid _ := rnew_any w
  go_enter Try.func3, Try.ntmps3
  go_wp2_with fail
  refine (Calls.mono HN.out) ?_
  rintro e w1 ⟨rfl, ok1, b1⟩
  have Z1 : Sep w.heap.size [rv w.heap.size rs0] w1 := (Sep.nil (w := w)).fresh b1 ok1 (fun k hk => by rcases hk with hk | hk; simp only [rv, List.mem_singleton] at hk; omega; cases hk)
  have hmk := make_flags w1
  have b2 : Below w1.heap.size w1 (w1.alloc (.cells #[.bool false, .bool false, .bool false, .bool false, .bool false, .bool false, .bool false, .bool false, .bool false, .bool false, .bool false, .bool false, .bool false, .bool false, .bool false, .bool false] 4)) := (Below.refl _ _).alloc (Nat.le_refl _) _
  have B2 : Blk (w1.alloc (.cells #[.bool false, .bool false, .bool false, .bool false, .bool false, .bool false, .bool false, .bool false, .bool false, .bool false, .bool false, .bool false, .bool false, .bool false, .bool false, .bool false] 4)) w1.heap.size 4 ((List.replicate 16 false).map .bool) := Blk.new' w1 4 [.bool false, .bool false, .bool false, .bool false, .bool false, .bool false, .bool false, .bool false, .bool false, .bool false, .bool false, .bool false, .bool false, .bool false, .bool false, .bool false]
  have Z2 := (Z1.fresh b2 (hdOb_ok B2) (fun k hk => by rcases hk with hk | hk; simp only [hdOb, List.mem_singleton] at hk; omega; cases hk)).swap
  have J : Hid (Sep w.heap.size [rv w.heap.size rs0, hdOb w1.heap.size (List.replicate 16 false)] (w1.alloc (.cells #[.bool false, .bool false, .bool false, .bool false, .bool false, .bool false, .bool false, .bool false, .bool false, .bool false, .bool false, .bool false, .bool false, .bool false, .bool false, .bool false] 4)) ∧ Below w.heap.size w (w1.alloc (.cells #[.bool false, .bool false, .bool false, .bool false, .bool false, .bool false, .bool false, .bool false, .bool false, .bool false, .bool false, .bool false, .bool false, .bool false, .bool false, .bool false] 4))) := ⟨Z2, below_then b1 b2⟩
  clear HN ok1 b1 Z1 b2 B2 Z2
  obtain ⟨g, hg⟩ : ∃ g, w.heap.size = g := ⟨_, rfl⟩
  have J2 : Hid (Sep w.heap.size [rv g rs0, hdOb w1.heap.size (List.replicate 16 false)] (w1.alloc (.cells #[.bool false, .bool false, .bool false, .bool false, .bool false, .bool false, .bool false, .bool false, .bool false, .bool false, .bool false, .bool false, .bool false, .bool false, .bool false, .bool false] 4)) ∧ Below w.heap.size w (w1.alloc (.cells #[.bool false, .bool false, .bool false, .bool false, .bool false, .bool false, .bool false, .bool false, .bool false, .bool false, .bool false, .bool false, .bool false, .bool false, .bool false, .bool false] 4))) := by have := J.out; rw [show rv w.heap.size rs0 = rv g rs0 by rw [hg]] at this; exact this
  clear J
  rw [show (⟨w.heap.size, 0, none⟩ : Addr) = ⟨g, 0, none⟩ by rw [hg]]
  clear hg
  go_wp2_with fail
  clear hmk
  generalize w1.alloc (.cells #[.bool false, .bool false, .bool false, .bool false, .bool false, .bool false, .bool false, .bool false, .bool false, .bool false, .bool false, .bool false, .bool false, .bool false, .bool false, .bool false] 4) = w2 at *
  generalize w1.heap.size = Q at *
  go_loopw [5] (fun iv wr => ∃ (k : Nat) (m : Rs) (had : List Bool), iv = .int .i64 k ∧ k ≤ 80 ∧ Sep w.heap.size [rv g m, hdOb Q had] wr ∧ Below w.heap.size w wr ∧ FI m had) (fun iv _ => 80 - (intOf iv).toNat)
  case atStart => exact ⟨0, rs0, _, rfl, by omega, J2.out.1, J2.out.2, FI0⟩
  case round =>
    clear J2
    obtain ⟨k, m, had, rfl, hk, Z0, hB0, hF0⟩ := hrel
    have HK : Hid _ := And.intro Z0 (And.intro hB0 hF0)
    clear Z0 hB0 hF0
    have hk8 : (k : Int) ≤ 80 := by omega
    go_upto_region 6 with fail
    go_cut [19] from 12 to 89 (fun cv wx => cv = .bool (decide (k < len ∧ k < 80)) ∧ wx = wr)
    case first =>
      by_cases t1 : (k : Int) < (len : Int)
      · by_cases t2 : (k : Int) < 80
        · go_wp2
          go_meet
          exact ⟨congrArg Value.bool (decide_eq_true (p := k < len ∧ k < 80) (by omega)).symm, rfl⟩
        · go_wp2
          go_meet
          exact ⟨congrArg Value.bool (decide_eq_false (p := k < len ∧ k < 80) (by omega)).symm, rfl⟩
      · go_wp2
        go_meet
        exact ⟨congrArg Value.bool (decide_eq_false (p := k < len ∧ k < 80) (by omega)).symm, rfl⟩
    case rest =>
    obtain ⟨rfl, hwc⟩ := hcut
    obtain rfl := hwc.symm
    clear hwc
    by_cases hlt : k < len ∧ k < 80
    · rw [decide_eq_true hlt]
      obtain ⟨ab, ao, rfl, hcells⟩ := HA.out.each (by omega)
      obtain ⟨z0, z1, z2, z3, z4, q0, q1, q2, q3, q4, -, -, -⟩ := hcells k hlt.1
      have HC : Hid (∀ W, Below wr.heap.size wr W → W.cell? ⟨ab, ao + k * 5, none⟩ = some (.int .i64 z0) ∧ W.cell? ⟨ab, ao + k * 5 + 1, none⟩ = some (.int .i64 z1) ∧ W.cell? ⟨ab, ao + k * 5 + 2, none⟩ = some (.int .u64 (z2.toNat : Int)) ∧ W.cell? ⟨ab, ao + k * 5 + 3, none⟩ = some (.int .u64 (z3.toNat : Int)) ∧ W.cell? ⟨ab, ao + k * 5 + 4, none⟩ = some (.int .i64 z4)) := fun W b => by
        have bw := below_then HK.out.2.1 b
        exact ⟨cell_later8 q0 bw, cell_later8 q1 bw, cell_later8 q2 bw, cell_later8 q3 bw, cell_later8 q4 bw⟩
      have HDo : Hid (∀ W, Below wr.heap.size wr W → Calls Try.prog 9 #[.pointer (some ⟨g, 0, none⟩), .int .i64 z0, .agg #[.int .i64 z1, .int .u64 (z2.toNat : Int), .int .u64 (z3.toNat : Int), .int .i64 z4]] W (Does W g (doM m z0 ⟨z1, z2.toNat, z3.toNat, z4⟩))) := fun W b => doN_any g m z0 ⟨z1, z2.toNat, z3.toNat, z4⟩ W (HK.out.1.later b).head ⟨by show (0 : Int) ≤ (z3.toNat : Int); omega, by show (z3.toNat : Int) < 18446744073709551616; have := z3.isLt; omega⟩
      have hq : (k : Int) < (len : Int) := by omega
      clear hcells q0 q1 q2 q3 q4
      go_upto_region 8 with fail
      refine e_begin (S := fun W => Below wr.heap.size wr W) 12 (by kernel_rfl) ((Below.refl _ _).drew) (fun hS => ?_)
      refine e_take (i := 0) (v := ?_) [12] rfl (by kernel_rfl) (by kernel_rfl) (by kernel_rfl) (by kernel_rfl) (by exact fun _ _ _ h => h) (by rfl) ?_ hS ?_
      rotate_left
      · ((intro w hSw; obtain ⟨q0, q1, q2, q3, q4⟩ := HC.out _ hSw; go_simp) <;> with_reducible rfl)
      (try simp only [Act.put, List.setIfInBounds_toArray, List.set_cons_zero, List.set_cons_succ])
      refine e_take (i := 1) (v := ?_) [3, 4, 5, 12] rfl (by kernel_rfl) (by kernel_rfl) (by kernel_rfl) (by kernel_rfl) (by exact fun _ _ _ h => h) (by rfl) ?_ hS ?_
      rotate_left
      · ((intro w hSw; obtain ⟨q0, q1, q2, q3, q4⟩ := HC.out _ hSw; go_simp) <;> with_reducible rfl)
      (try simp only [Act.put, List.setIfInBounds_toArray, List.set_cons_zero, List.set_cons_succ])
      refine e_take (i := 2) (v := ?_) [3, 4, 5, 12] rfl (by kernel_rfl) (by kernel_rfl) (by kernel_rfl) (by kernel_rfl) (by exact fun _ _ _ h => h) (by rfl) ?_ hS ?_
      rotate_left
      · ((intro w hSw; obtain ⟨q0, q1, q2, q3, q4⟩ := HC.out _ hSw; go_simp) <;> with_reducible rfl)
      (try simp only [Act.put, List.setIfInBounds_toArray, List.set_cons_zero, List.set_cons_succ])
      refine e_take (i := 3) (v := ?_) [4, 5, 12] rfl (by kernel_rfl) (by kernel_rfl) (by kernel_rfl) (by kernel_rfl) (by exact fun _ _ _ h => h) (by rfl) ?_ hS ?_
      rotate_left
      · ((intro w hSw; obtain ⟨q0, q1, q2, q3, q4⟩ := HC.out _ hSw; go_simp) <;> with_reducible rfl)
      (try simp only [Act.put, List.setIfInBounds_toArray, List.set_cons_zero, List.set_cons_succ])
      refine e_take (i := 4) (v := ?_) [5, 12] rfl (by kernel_rfl) (by kernel_rfl) (by kernel_rfl) (by kernel_rfl) (by exact fun _ _ _ h => h) (by rfl) ?_ hS ?_
      rotate_left
      · ((intro w hSw; obtain ⟨q0, q1, q2, q3, q4⟩ := HC.out _ hSw; go_simp) <;> with_reducible rfl)
      (try simp only [Act.put, List.setIfInBounds_toArray, List.set_cons_zero, List.set_cons_succ])
      refine e_take (i := 5) (v := ?_) [12] rfl (by kernel_rfl) (by kernel_rfl) (by kernel_rfl) (by kernel_rfl) (by exact fun _ _ _ h => h) (by rfl) ?_ hS ?_
      rotate_left
      · ((intro w hSw; obtain ⟨q0, q1, q2, q3, q4⟩ := HC.out _ hSw; go_simp) <;> with_reducible rfl)
      (try simp only [Act.put, List.setIfInBounds_toArray, List.set_cons_zero, List.set_cons_succ])
      refine e_take (i := 6) (v := ?_) [8, 9, 10, 11, 12] rfl (by kernel_rfl) (by kernel_rfl) (by kernel_rfl) (by kernel_rfl) (by exact fun _ _ _ h => h) (by rfl) ?_ hS ?_
      rotate_left
      · ((intro w hSw; obtain ⟨q0, q1, q2, q3, q4⟩ := HC.out _ hSw; go_simp) <;> with_reducible rfl)
      (try simp only [Act.put, List.setIfInBounds_toArray, List.set_cons_zero, List.set_cons_succ])
      refine e_take (i := 7) (v := ?_) [8, 9, 10, 11, 12] rfl (by kernel_rfl) (by kernel_rfl) (by kernel_rfl) (by kernel_rfl) (by exact fun _ _ _ h => h) (by rfl) ?_ hS ?_
      rotate_left
      · ((intro w hSw; obtain ⟨q0, q1, q2, q3, q4⟩ := HC.out _ hSw; go_simp) <;> with_reducible rfl)
      (try simp only [Act.put, List.setIfInBounds_toArray, List.set_cons_zero, List.set_cons_succ])
      refine e_take (i := 8) (v := ?_) [9, 10, 11, 12] rfl (by kernel_rfl) (by kernel_rfl) (by kernel_rfl) (by kernel_rfl) (by exact fun _ _ _ h => h) (by rfl) ?_ hS ?_
      rotate_left
      · ((intro w hSw; obtain ⟨q0, q1, q2, q3, q4⟩ := HC.out _ hSw; go_simp) <;> with_reducible rfl)
      (try simp only [Act.put, List.setIfInBounds_toArray, List.set_cons_zero, List.set_cons_succ])
      refine e_take (i := 9) (v := ?_) [10, 11, 12] rfl (by kernel_rfl) (by kernel_rfl) (by kernel_rfl) (by kernel_rfl) (by exact fun _ _ _ h => h) (by rfl) ?_ hS ?_
      rotate_left
      · ((intro w hSw; obtain ⟨q0, q1, q2, q3, q4⟩ := HC.out _ hSw; go_simp) <;> with_reducible rfl)
      (try simp only [Act.put, List.setIfInBounds_toArray, List.set_cons_zero, List.set_cons_succ])
      refine e_take (i := 10) (v := ?_) [11, 12] rfl (by kernel_rfl) (by kernel_rfl) (by kernel_rfl) (by kernel_rfl) (by exact fun _ _ _ h => h) (by rfl) ?_ hS ?_
      rotate_left
      · ((intro w hSw; obtain ⟨q0, q1, q2, q3, q4⟩ := HC.out _ hSw; go_simp) <;> with_reducible rfl)
      (try simp only [Act.put, List.setIfInBounds_toArray, List.set_cons_zero, List.set_cons_succ])
      refine e_one (i := 11) rfl (by kernel_rfl) (fun K hK => ?_)
      go_simp
      refine (Calls.mono (given_any ⟨z1, z2.toNat, z3.toNat, z4⟩ _)) ?_
      rintro e x1 ⟨rfl, b1⟩
      have S1 := below_then hS b1
      clear b1
      go_wp2_with fail
      refine hK.out _ _ (S1) (fun hS => ?_)
      clear hK K
      clear hS
      refine e_last (z := 12) rfl (by kernel_rfl) (fun K hK => ?_)
      go_simp
      refine (Calls.mono (HDo.out _ S1)) ?_
      rintro e w5 ⟨v5, rfl, -, t5⟩
      have Z5 := (HK.out.1.later S1).step (t5.fin (m := m))
      have B5 := (below_then HK.out.2.1 S1).trans ((HK.out.1.later S1).below (t5.fin (m := m)))
      have H5 : Hid _ := And.intro Z5 B5
      clear Z5 B5 t5 S1 HDo
      go_wp2_with fail
      refine hK.out _ _ ?_
      clear hK K
      refine e_done (by kernel_rfl) ?_ _
      have hJ0 := HK.out.2.2.go (do_chg m HK.out.1.head.holds.2 z0 ⟨z1, z2.toNat, z3.toNat, z4⟩)
      have HJ0 : Hid _ := hJ0
      clear hJ0 HC HK
      generalize (doM m z0 ⟨z1, z2.toNat, z3.toNat, z4⟩).2.1 = m' at *
      go_wp2_with fail
      go_loopw [6] (fun iv wr => ∃ (j : Nat) (had' : List Bool), j ≤ 16 ∧ iv = .int .i64 j ∧ FJ m m' had' j ∧ Sep w.heap.size [rv g m', hdOb Q had'] wr ∧ Below w.heap.size w wr) (fun iv _ => 16 - (intOf iv).toNat)
      case atStart => exact ⟨0, had, by omega, rfl, HJ0.out, H5.out.1, H5.out.2⟩
      case round =>
        clear HJ0 H5
        obtain ⟨j, had', hj, rfl, hJ, Z, hB2⟩ := hrel
        by_cases hlt2 : j < 16
        · have hl := hJ.left j (Nat.le_refl _) hlt2
          have q : (j : Int) < 16 := by omega
          have HKy : Hid _ := keyM_any g m' (j : Int) wr Z.head
          have hBq : Blk wr Q 4 (had'.map .bool) := (Z.swap.head).holds
          have cj := blk_at hBq j
          rw [List.getElem?_map, List.getElem?_eq_getElem (by rw [hJ.len]; exact hlt2)] at cj
          have fj := blk_frozen hBq j
          have hgd : had'[j]'(by rw [hJ.len]; exact hlt2) = had'.getD j false := by rw [List.getD, List.getElem?_eq_getElem (by rw [hJ.len]; exact hlt2)]; rfl
          simp only [Option.map_some, hgd] at cj
          clear hBq hgd
          cases hhb : had'.getD j false with
          | true =>
            by_cases hz : kAt m' j = 0
            · have hf : fAt m' j = true := hl.2.1 hhb hz
              have R0 := FJ.step hJ hlt2 true (by rw [hhb]; rfl)
              have Z7 := (Z.swap.step (hdOb_set Z.swap.head j true)).swap
              have B7 := hB2.trans (Z.swap.below (hdOb_set Z.swap.head j true))
              have HFe : Hid _ := fenM_any g m' (j : Int) wr Z.head
              rw [show fenM m' (j : Int) = true by unfold fenM; rw [nxB_nat hlt2, Int.toNat_natCast]; exact hf] at HFe
              have HMy : Hid _ := may_any g m' (j : Int) 2 wr Z.head
              rw [show mayM m' (j : Int) 2 = false by unfold mayM; rw [if_neg (by rw [nxB_nat hlt2]; simp), if_neg (by decide), if_pos ⟨rfl, by unfold fenM; rw [nxB_nat hlt2, Int.toNat_natCast]; exact hf⟩]] at HMy
              have HFe2 : Hid _ := fenM_any g m' (j : Int) _ Z7.head
              rw [show fenM m' (j : Int) = true by unfold fenM; rw [nxB_nat hlt2, Int.toNat_natCast]; exact hf] at HFe2
              have cj' : (wr.setCell ⟨Q, j, none⟩ (.bool true)).cell? ⟨Q, j, none⟩ = some (.bool true) := by have := blk_at (show Blk (wr.setCell ⟨Q, j, none⟩ (.bool true)) Q _ _ from (Z7.swap.head).holds) j; rw [this, List.getElem?_map, List.getElem?_set_self (by rw [hJ.len]; exact hlt2)]; rfl
              have R : Hid _ := And.intro R0 (And.intro Z7 B7)
              rw [hhb] at cj
              have hx : (kAt m' j != 0) = false := by rw [hz]; rfl
              rw [show keyM m' (j : Int) = kAt m' j by unfold keyM; rw [nxB_nat hlt2, Int.toNat_natCast]; rfl] at HKy
              clear hJ Z hB2 R0 Z7 B7 hl hz hhb hf
              generalize kAt m' j = x at *
              go_wp2_with fail
              refine (Calls.mono HKy.out) ?_
              rintro e _ ⟨rfl, rfl⟩
              go_wp2_with fail
              refine (Calls.mono HMy.out) ?_
              rintro e _ ⟨rfl, rfl⟩
              go_wp2_with fail
              refine (Calls.mono HFe.out) ?_
              rintro e _ ⟨rfl, rfl⟩
              go_wp2
              go_roundw
              case rel => exact ⟨j + 1, _, by omega, by go_num, R.out.1, R.out.2.1, R.out.2.2⟩
              case measure => simp [intOf]; omega
            · have hf : fAt m' j = false := hl.1 hz
              have R0 := FJ.step hJ hlt2 true (by rw [hhb]; rfl)
              have Z7 := (Z.swap.step (hdOb_set Z.swap.head j true)).swap
              have B7 := hB2.trans (Z.swap.below (hdOb_set Z.swap.head j true))
              have HFe : Hid _ := fenM_any g m' (j : Int) wr Z.head
              rw [show fenM m' (j : Int) = false by unfold fenM; rw [nxB_nat hlt2, Int.toNat_natCast]; exact hf] at HFe
              have HFe2 : Hid _ := fenM_any g m' (j : Int) _ Z7.head
              rw [show fenM m' (j : Int) = false by unfold fenM; rw [nxB_nat hlt2, Int.toNat_natCast]; exact hf] at HFe2
              have cj' : (wr.setCell ⟨Q, j, none⟩ (.bool true)).cell? ⟨Q, j, none⟩ = some (.bool true) := by have := blk_at (show Blk (wr.setCell ⟨Q, j, none⟩ (.bool true)) Q _ _ from (Z7.swap.head).holds) j; rw [this, List.getElem?_map, List.getElem?_set_self (by rw [hJ.len]; exact hlt2)]; rfl
              have R : Hid _ := And.intro R0 (And.intro Z7 B7)
              rw [hhb] at cj
              have hx : (kAt m' j != 0) = true := bne_iff_ne.2 hz
              rw [show keyM m' (j : Int) = kAt m' j by unfold keyM; rw [nxB_nat hlt2, Int.toNat_natCast]; rfl] at HKy
              clear hJ Z hB2 R0 Z7 B7 hl hz hhb hf
              generalize kAt m' j = x at *
              go_wp2_with fail
              refine (Calls.mono HKy.out) ?_
              rintro e _ ⟨rfl, rfl⟩
              go_wp2_with fail
              refine (Calls.mono HFe.out) ?_
              rintro e _ ⟨rfl, rfl⟩
              go_wp2
              go_roundw
              case rel => exact ⟨j + 1, _, by omega, by go_num, R.out.1, R.out.2.1, R.out.2.2⟩
              case measure => simp [intOf]; omega
          | false =>
            by_cases hz : kAt m' j = 0
            · have hf : fAt m' j = false := hl.2.2 hhb hz
              have R0 := FJ.step hJ hlt2 false (by rw [hhb]; show false = (kAt m' j != 0); rw [hz]; rfl)
              have Z7 := (Z.swap.step (hdOb_set Z.swap.head j false)).swap
              have B7 := hB2.trans (Z.swap.below (hdOb_set Z.swap.head j false))
              have HFe : Hid _ := fenM_any g m' (j : Int) wr Z.head
              rw [show fenM m' (j : Int) = false by unfold fenM; rw [nxB_nat hlt2, Int.toNat_natCast]; exact hf] at HFe
              have HFe2 : Hid _ := fenM_any g m' (j : Int) _ Z7.head
              rw [show fenM m' (j : Int) = false by unfold fenM; rw [nxB_nat hlt2, Int.toNat_natCast]; exact hf] at HFe2
              have cj' : (wr.setCell ⟨Q, j, none⟩ (.bool false)).cell? ⟨Q, j, none⟩ = some (.bool false) := by have := blk_at (show Blk (wr.setCell ⟨Q, j, none⟩ (.bool false)) Q _ _ from (Z7.swap.head).holds) j; rw [this, List.getElem?_map, List.getElem?_set_self (by rw [hJ.len]; exact hlt2)]; rfl
              have R : Hid _ := And.intro R0 (And.intro Z7 B7)
              rw [hhb] at cj
              have hx : (kAt m' j != 0) = false := by rw [hz]; rfl
              rw [show keyM m' (j : Int) = kAt m' j by unfold keyM; rw [nxB_nat hlt2, Int.toNat_natCast]; rfl] at HKy
              clear hJ Z hB2 R0 Z7 B7 hl hz hhb hf
              generalize kAt m' j = x at *
              go_wp2_with fail
              refine (Calls.mono HKy.out) ?_
              rintro e _ ⟨rfl, rfl⟩
              go_wp2_with fail
              refine (Calls.mono HFe2.out) ?_
              rintro e _ ⟨rfl, rfl⟩
              go_wp2
              go_roundw
              case rel => exact ⟨j + 1, _, by omega, by go_num, R.out.1, R.out.2.1, R.out.2.2⟩
              case measure => simp [intOf]; omega
            · have hf : fAt m' j = false := hl.1 hz
              have R0 := FJ.step hJ hlt2 true (by rw [hhb]; show true = (kAt m' j != 0); exact (bne_iff_ne.2 hz).symm)
              have Z7 := (Z.swap.step (hdOb_set Z.swap.head j true)).swap
              have B7 := hB2.trans (Z.swap.below (hdOb_set Z.swap.head j true))
              have HFe : Hid _ := fenM_any g m' (j : Int) wr Z.head
              rw [show fenM m' (j : Int) = false by unfold fenM; rw [nxB_nat hlt2, Int.toNat_natCast]; exact hf] at HFe
              have HFe2 : Hid _ := fenM_any g m' (j : Int) _ Z7.head
              rw [show fenM m' (j : Int) = false by unfold fenM; rw [nxB_nat hlt2, Int.toNat_natCast]; exact hf] at HFe2
              have cj' : (wr.setCell ⟨Q, j, none⟩ (.bool true)).cell? ⟨Q, j, none⟩ = some (.bool true) := by have := blk_at (show Blk (wr.setCell ⟨Q, j, none⟩ (.bool true)) Q _ _ from (Z7.swap.head).holds) j; rw [this, List.getElem?_map, List.getElem?_set_self (by rw [hJ.len]; exact hlt2)]; rfl
              have R : Hid _ := And.intro R0 (And.intro Z7 B7)
              rw [hhb] at cj
              have hx : (kAt m' j != 0) = true := bne_iff_ne.2 hz
              rw [show keyM m' (j : Int) = kAt m' j by unfold keyM; rw [nxB_nat hlt2, Int.toNat_natCast]; rfl] at HKy
              clear hJ Z hB2 R0 Z7 B7 hl hz hhb hf
              generalize kAt m' j = x at *
              go_wp2_with fail
              refine (Calls.mono HKy.out) ?_
              rintro e _ ⟨rfl, rfl⟩
              go_wp2_with fail
              refine (Calls.mono HFe.out) ?_
              rintro e _ ⟨rfl, rfl⟩
              go_wp2
              go_roundw
              case rel => exact ⟨j + 1, _, by omega, by go_num, R.out.1, R.out.2.1, R.out.2.2⟩
              case measure => simp [intOf]; omega
        · obtain rfl : j = 16 := by omega
          have R : Hid _ := And.intro hJ.end (And.intro Z hB2)
          clear hJ Z hB2
          go_wp2
          go_roundw
          case rel => exact ⟨k + 1, m', had', by go_num, by omega, R.out.2.1, R.out.2.2, R.out.1⟩
          case measure => simp [intOf]; omega
    · rw [decide_eq_false hlt]
      have HKn : Hid _ := known13_any wr
      have F1 : Hid _ := HK.out.2.1
      clear HK
      go_wp2_with fail
      refine (Calls.mono HKn.out) ?_
      rintro e w9 ⟨rfl, b9⟩
      have F : Hid _ := below_then F1.out b9
      clear HKn F1 b9
      go_wp2
      go_ret
      exact ⟨rfl, F.out⟩
end Go.Proofs.Ytjokohjdpickoaa

