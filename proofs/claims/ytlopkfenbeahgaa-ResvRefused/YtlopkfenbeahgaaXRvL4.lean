/- The walk of ResvRefused. -/
import Derived.Test.YtlopkfenbeahgaaXRv29
import Derived.Test.YtlopkfenbeahgaaXRv22
import Derived.Test.YtlopkfenbeahgaaXRvB
import Derived.Test.YtlopkfenbeahgaaXDraw
import Derived.Deep.CutRange
namespace Go.Proofs.Ytlopkfenbeahgaa
open Go.RowKit Go.Shelf
set_option linter.unusedVariables false
set_option linter.unusedSimpArgs false
set_option maxRecDepth 4000

theorem any_two4 {P : Program} {Q : Exit → Act → World → Prop} {md : Region.Mode} {S : World → Prop} {L : List Oper} {i j : Nat} {oi oj : Oper} {ri rj : List Oper} (hi : L.drop i = oi :: ri) (hj : L.drop j = oj :: rj) {fuel : Nat} {listed : Array Bool} {a : Act} {w : World} (hr : Region.ready md L.toArray listed = [i, j])
    (h1 : ∀ K' : Act → World → Prop, Shut (∀ a w, S w → (S w → wpAnyH P md L.toArray Q S fuel (listed.setIfInBounds i true) a w) → K' a w) → if Region.wanted oi (yielded L.toArray a.tmps) = true then Oper.wp P oi a w K' Q else K' (a.put oi.dst undef) w)
    (h2 : ∀ K' : Act → World → Prop, Shut (∀ a w, S w → (S w → wpAnyH P md L.toArray Q S fuel (listed.setIfInBounds j true) a w) → K' a w) → if Region.wanted oj (yielded L.toArray a.tmps) = true then Oper.wp P oj a w K' Q else K' (a.put oj.dst undef) w) :
    wpAnyH P md L.toArray Q S (fuel + 1) listed a w :=
  wpAnyH_ready hr (by simp) (AllReadyH.cons (drop_at hi) h1 (AllReadyH.cons (drop_at hj) h2 AllReadyH.nil))
def NtP (L : List (Int × Int)) (z : Int) : Prop := (∀ k (hk : k < L.length), L[k].1 ≠ z ∧ 0 ≤ L[k].1 ∧ L[k].1 < 16) ∧ (∀ k (hk : k + 1 < L.length), L[k].1 < L[k + 1].1) ∧ L.length ≤ 16
set_option maxHeartbeats 16000000 in
theorem resvRefused_walk (a : Option Addr) (len cap : Nat) (w : World) (A : Act13Arg w a len cap) :
    Calls Try.prog 3 #[.slice a len cap] w fun e w' => e = .returned (.bool true) ∧ Below w.heap.size w w' := by
  have HA : Hid _ := A
  have hlen : (len : Int) ≤ 140737488355328 := by have := A.few; omega
  clear A
  have HN : Hid _ := rnew_any w
  go_enter Try.func3, Try.ntmps3
  go_wp2_with fail
  refine (Calls.mono HN.out) ?_
  rintro e w2 ⟨rfl, ok1, b1⟩
  have Z1 : Sep w.heap.size [rv w.heap.size rs0] w2 := (Sep.nil (w := w)).fresh b1 ok1 (fun k hk => by rcases hk with hk | hk; simp only [rv, List.mem_singleton] at hk; omega; cases hk)
  obtain ⟨g, hg⟩ : ∃ g, w.heap.size = g := ⟨_, rfl⟩
  rw [show rv w.heap.size rs0 = rv g rs0 by rw [hg]] at Z1
  have J2 : Hid _ := And.intro Z1 b1
  clear HN ok1 b1 Z1
  rw [show (⟨w.heap.size, 0, none⟩ : Addr) = ⟨g, 0, none⟩ by rw [hg]]
  clear hg
  go_wp2_with fail
  go_loopw [4] (fun iv wr => ∃ (k : Nat) (m : Rs), iv = .int .i64 k ∧ k ≤ 80 ∧ Sep w.heap.size [rv g m] wr ∧ Below w.heap.size w wr) (fun iv _ => 80 - (intOf iv).toNat)
  case atStart => exact ⟨0, rs0, rfl, by omega, J2.out.1, J2.out.2⟩
  case round =>
    clear J2
    obtain ⟨k, m, rfl, hk, Z0, hB0⟩ := hrel
    have HK : Hid _ := And.intro Z0 hB0
    clear Z0 hB0
    have hk8 : (k : Int) ≤ 80 := by omega
    go_upto_region 5 with fail
    go_cut [19] from 12 to 90 (fun cv wx => cv = .bool (decide (k < len ∧ k < 80)) ∧ wx = wr)
    case first =>
      by_cases t1 : (k : Int) < (len : Int)
      · by_cases t2 : (k : Int) < 80
        · go_wp2
          go_meet
          exact ⟨congrArg Value.bool (decide_eq_true (p := k < len ∧ k < 80) (by omega)).symm, rfl⟩
        · go_wp2
          go_meet
          exact ⟨congrArg Value.bool (decide_eq_false (p := k < len ∧ k < 80) (by omega)).symm, rfl⟩
      · go_wp2
        go_meet
        exact ⟨congrArg Value.bool (decide_eq_false (p := k < len ∧ k < 80) (by omega)).symm, rfl⟩
    case rest =>
    obtain ⟨rfl, hwc⟩ := hcut
    obtain rfl := hwc.symm
    clear hwc
    by_cases hlt : k < len ∧ k < 80
    · rw [decide_eq_true hlt]
      obtain ⟨ab, ao, rfl, hcells⟩ := HA.out.each (by omega)
      obtain ⟨z0, z1, z2, z3, z4, q0, q1, q2, q3, q4, -, -, -⟩ := hcells k hlt.1
      have HC : Hid (∀ W, Below w.heap.size w W → W.cell? ⟨ab, ao + k * 5, none⟩ = some (.int .i64 z0) ∧ W.cell? ⟨ab, ao + k * 5 + 1, none⟩ = some (.int .i64 z1) ∧ W.cell? ⟨ab, ao + k * 5 + 2, none⟩ = some (.int .u64 (z2.toNat : Int)) ∧ W.cell? ⟨ab, ao + k * 5 + 3, none⟩ = some (.int .u64 (z3.toNat : Int)) ∧ W.cell? ⟨ab, ao + k * 5 + 4, none⟩ = some (.int .i64 z4)) := fun W bw => ⟨cell_later8 q0 bw, cell_later8 q1 bw, cell_later8 q2 bw, cell_later8 q3 bw, cell_later8 q4 bw⟩
      have HNW : Hid (0 ≤ (⟨z1, z2.toNat, z3.toNat, z4⟩ : Cm).nw ∧ (⟨z1, z2.toNat, z3.toNat, z4⟩ : Cm).nw < 18446744073709551616) := ⟨by show (0 : Int) ≤ (z3.toNat : Int); omega, by show (z3.toNat : Int) < 18446744073709551616; have := z3.isLt; omega⟩
      have hq : (k : Int) < (len : Int) := by omega
      have hrf := do_ref m z0 ⟨z1, z2.toNat, z3.toNat, z4⟩
      have hnt := do_nts m z0 ⟨z1, z2.toNat, z3.toNat, z4⟩
      obtain ⟨dd, hD⟩ : ∃ dd, doM m z0 ⟨z1, z2.toNat, z3.toNat, z4⟩ = dd := ⟨_, rfl⟩
      rw [hD] at hrf hnt
      obtain ⟨⟨r0, r1, r2, r3⟩, m', L⟩ := dd
      have HD : Hid _ := hD
      have HRf : Hid (r0 ≠ 0 → (m', L) = (m, [])) := hrf
      have HNt : Hid (NtP L z0) := by
        obtain ⟨l, hl, h0⟩ := hnt
        simp only at hl
        subst hl
        exact ⟨(ntL_rise l z0 h0).1, (ntL_rise l z0 h0).2, ntL_len l 16⟩
      clear hcells q0 q1 q2 q3 q4 hrf hnt hD
      have HBy : Hid _ := rsBytes_any g m wr HK.out.1.head
      go_wp2_with fail
      refine (Calls.mono HBy.out) ?_
      rintro e x0 ⟨z, rfl, oz, bz⟩
      obtain ⟨za, zn, zc, rfl, -⟩ := own13_strs oz
      have HZ : Hid _ := And.intro (HK.out.1.fresh bz (rwOb_ok oz) (rwOb_new oz)).swap (below_then HK.out.2 bz)
      clear HBy HK oz bz
      go_upto_region 8 with fail
      go_cut [6, 7] from 24 to 90 (fun pv lv wx => ∃ b na nc, pv = .pointer (some ⟨b, 0, none⟩) ∧ lv = .slice na L.length nc ∧ Sep w.heap.size [rpOb b [.int .i64 r0, .int .i64 r1, .int .i64 r2, .int .i64 r3, .slice none 0 0], rvN g m' (.slice na L.length nc) L, rwOb (.slice za zn zc) (bytM m)] wx ∧ Below w.heap.size w wx)
      case first =>
        refine wp_region_held_drew (S := fun W => Below w.heap.size w W) (by kernel_rfl) (below_then HZ.out.2 (Below.refl _ _).drew) (fun hS => ?_)
        have Z0 := HZ.out.1.drew
        refine any_take (i := 0) (v := ?_) rfl (by kernel_rfl) (by kernel_rfl) (by kernel_rfl) (by exact fun _ _ _ h => h) (by rfl) ?_ hS ?_
        rotate_left
        · ((intro w hSw; obtain ⟨q0, q1, q2, q3, q4⟩ := HC.out _ hSw; go_simp) <;> with_reducible rfl)
        (try simp only [Act.put, List.setIfInBounds_toArray, List.set_cons_zero, List.set_cons_succ])
        refine any_take (i := 1) (v := ?_) rfl (by kernel_rfl) (by kernel_rfl) (by kernel_rfl) (by exact fun _ _ _ h => h) (by rfl) ?_ hS ?_
        rotate_left
        · ((intro w hSw; obtain ⟨q0, q1, q2, q3, q4⟩ := HC.out _ hSw; go_simp) <;> with_reducible rfl)
        (try simp only [Act.put, List.setIfInBounds_toArray, List.set_cons_zero, List.set_cons_succ])
        refine any_take (i := 2) (v := ?_) rfl (by kernel_rfl) (by kernel_rfl) (by kernel_rfl) (by exact fun _ _ _ h => h) (by rfl) ?_ hS ?_
        rotate_left
        · ((intro w hSw; obtain ⟨q0, q1, q2, q3, q4⟩ := HC.out _ hSw; go_simp) <;> with_reducible rfl)
        (try simp only [Act.put, List.setIfInBounds_toArray, List.set_cons_zero, List.set_cons_succ])
        refine any_take (i := 3) (v := ?_) rfl (by kernel_rfl) (by kernel_rfl) (by kernel_rfl) (by exact fun _ _ _ h => h) (by rfl) ?_ hS ?_
        rotate_left
        · ((intro w hSw; obtain ⟨q0, q1, q2, q3, q4⟩ := HC.out _ hSw; go_simp) <;> with_reducible rfl)
        (try simp only [Act.put, List.setIfInBounds_toArray, List.set_cons_zero, List.set_cons_succ])
        refine any_take (i := 4) (v := ?_) rfl (by kernel_rfl) (by kernel_rfl) (by kernel_rfl) (by exact fun _ _ _ h => h) (by rfl) ?_ hS ?_
        rotate_left
        · ((intro w hSw; obtain ⟨q0, q1, q2, q3, q4⟩ := HC.out _ hSw; go_simp) <;> with_reducible rfl)
        (try simp only [Act.put, List.setIfInBounds_toArray, List.set_cons_zero, List.set_cons_succ])
        refine any_take (i := 5) (v := ?_) rfl (by kernel_rfl) (by kernel_rfl) (by kernel_rfl) (by exact fun _ _ _ h => h) (by rfl) ?_ hS ?_
        rotate_left
        · ((intro w hSw; obtain ⟨q0, q1, q2, q3, q4⟩ := HC.out _ hSw; go_simp) <;> with_reducible rfl)
        (try simp only [Act.put, List.setIfInBounds_toArray, List.set_cons_zero, List.set_cons_succ])
        refine any_take (i := 6) (v := ?_) rfl (by kernel_rfl) (by kernel_rfl) (by kernel_rfl) (by exact fun _ _ _ h => h) (by rfl) ?_ hS ?_
        rotate_left
        · ((intro w hSw; obtain ⟨q0, q1, q2, q3, q4⟩ := HC.out _ hSw; go_simp) <;> with_reducible rfl)
        (try simp only [Act.put, List.setIfInBounds_toArray, List.set_cons_zero, List.set_cons_succ])
        refine any_take (i := 7) (v := ?_) rfl (by kernel_rfl) (by kernel_rfl) (by kernel_rfl) (by exact fun _ _ _ h => h) (by rfl) ?_ hS ?_
        rotate_left
        · ((intro w hSw; obtain ⟨q0, q1, q2, q3, q4⟩ := HC.out _ hSw; go_simp) <;> with_reducible rfl)
        (try simp only [Act.put, List.setIfInBounds_toArray, List.set_cons_zero, List.set_cons_succ])
        refine any_take (i := 8) (v := ?_) rfl (by kernel_rfl) (by kernel_rfl) (by kernel_rfl) (by exact fun _ _ _ h => h) (by rfl) ?_ hS ?_
        rotate_left
        · ((intro w hSw; obtain ⟨q0, q1, q2, q3, q4⟩ := HC.out _ hSw; go_simp) <;> with_reducible rfl)
        (try simp only [Act.put, List.setIfInBounds_toArray, List.set_cons_zero, List.set_cons_succ])
        refine any_take (i := 9) (v := ?_) rfl (by kernel_rfl) (by kernel_rfl) (by kernel_rfl) (by exact fun _ _ _ h => h) (by rfl) ?_ hS ?_
        rotate_left
        · ((intro w hSw; obtain ⟨q0, q1, q2, q3, q4⟩ := HC.out _ hSw; go_simp) <;> with_reducible rfl)
        (try simp only [Act.put, List.setIfInBounds_toArray, List.set_cons_zero, List.set_cons_succ])
        refine any_take (i := 10) (v := ?_) rfl (by kernel_rfl) (by kernel_rfl) (by kernel_rfl) (by exact fun _ _ _ h => h) (by rfl) ?_ hS ?_
        rotate_left
        · ((intro w hSw; obtain ⟨q0, q1, q2, q3, q4⟩ := HC.out _ hSw; go_simp) <;> with_reducible rfl)
        (try simp only [Act.put, List.setIfInBounds_toArray, List.set_cons_zero, List.set_cons_succ])
        clear HZ
        generalize x0.drew = W0 at *
        refine any_two4 (i := 11) (j := 16) rfl rfl (by kernel_rfl) (fun K hK => ?_) (fun K hK => ?_)
        · go_simp
          refine (Calls.mono (given_any ⟨z1, z2.toNat, z3.toNat, z4⟩ _)) ?_
          rintro e x1 ⟨rfl, b1⟩
          have S1 := below_then hS b1
          have Z1 := Z0.later b1
          go_wp2_with fail
          refine hK.out _ _ S1 (fun hS => ?_)
          clear b1 S1 Z0
          clear hK K
          refine any_two4 (i := 12) (j := 16) rfl rfl (by kernel_rfl) (fun K hK => ?_) (fun K hK => ?_)
          · go_simp
            refine (Calls.mono (doR_any HD.out _ Z1.head HNW.out)) ?_
            rintro e x2 ⟨na, nc, rfl, st⟩
            have S2 := hS.trans (Z1.below st)
            have Z2 := Z1.step st
            go_wp2_with fail
            refine hK.out _ _ S2 (fun hS => ?_)
            clear st S2 Z1
            clear hK K
            refine any_take (i := 13) (v := ?_) rfl (by kernel_rfl) (by kernel_rfl) (by kernel_rfl) (by exact fun _ _ _ h => h) (by rfl) ?_ hS ?_
            rotate_left
            · ((intro w hSw; skip; go_simp) <;> with_reducible rfl)
            (try simp only [Act.put, List.setIfInBounds_toArray, List.set_cons_zero, List.set_cons_succ])
            refine any_take (i := 14) (v := ?_) rfl (by kernel_rfl) (by kernel_rfl) (by kernel_rfl) (by exact fun _ _ _ h => h) (by rfl) ?_ hS ?_
            rotate_left
            · ((intro w hSw; skip; go_simp) <;> with_reducible rfl)
            (try simp only [Act.put, List.setIfInBounds_toArray, List.set_cons_zero, List.set_cons_succ])
            refine any_take (i := 15) (v := ?_) rfl (by kernel_rfl) (by kernel_rfl) (by kernel_rfl) (by exact fun _ _ _ h => h) (by rfl) ?_ hS ?_
            rotate_left
            · ((intro w hSw; skip; go_simp) <;> with_reducible rfl)
            (try simp only [Act.put, List.setIfInBounds_toArray, List.set_cons_zero, List.set_cons_succ])
            refine any_on (i := 16) rfl (by kernel_rfl) (fun K hK => ?_)
            go_simp
            have ba : Below x2.heap.size x2 (x2.alloc (.cells #[.int .i64 0, .int .i64 0, .int .i64 0, .int .i64 0, .slice none 0 0] 28)) := (Below.refl _ _).alloc (Nat.le_refl _) _
            have Za := Z2.fresh ba (rpOb_ok (Blk.new' x2 28 [.int .i64 0, .int .i64 0, .int .i64 0, .int .i64 0, .slice none 0 0])) (fun k hk => by rcases hk with hk | hk; simp only [rpOb, List.mem_singleton] at hk; omega; cases hk)
            refine hK.out _ _ (below_then hS ba) (fun hS => ?_)
            clear hK K ba
            generalize (x2.alloc (.cells #[.int .i64 0, .int .i64 0, .int .i64 0, .int .i64 0, .slice none 0 0] 28)) = xa at *
            generalize x2.heap.size = b at *
            have PB : Blk xa b 28 [.int .i64 0, .int .i64 0, .int .i64 0, .int .i64 0, .slice none 0 0] := Za.head.holds
            have y0 := blk_at PB 0
            have f0 := blk_frozen PB 0
            have y1 := blk_at PB 1
            have f1 := blk_frozen PB 1
            have y2 := blk_at PB 2
            have f2 := blk_frozen PB 2
            have y3 := blk_at PB 3
            have f3 := blk_frozen PB 3
            have y4 := blk_at PB 4
            have f4 := blk_frozen PB 4
            simp only [List.getElem?_cons_zero, List.getElem?_cons_succ] at y0 y1 y2 y3 y4
            have st5 := rp5_step Za.head r0 r1 r2 r3
            have S5 := hS.trans (Za.below st5)
            have Zf := Za.step st5
            have G : Hid _ := And.intro Zf S5
            unfold rp5 at G S5
            refine any_on (i := 17) rfl (by kernel_rfl) (fun K hK => ?_)
            go_simp
            refine hK.out _ _ S5 (fun hS => ?_)
            clear hK K S5 Zf st5 PB
            refine any_take (i := 18) (v := ?_) rfl (by kernel_rfl) (by kernel_rfl) (by kernel_rfl) (by exact fun _ _ _ h => h) (by rfl) ?_ hS ?_
            rotate_left
            · ((intro w hSw; (try dsimp only at hSw); go_simp) <;> with_reducible rfl)
            (try simp only [Act.put, List.setIfInBounds_toArray, List.set_cons_zero, List.set_cons_succ])
            refine wpAnyH_done (by kernel_rfl) ?_ _
            clear y0 y1 y2 y3 y4 f0 f1 f2 f3 f4 hS
            go_wp2
            go_meet
            exact ⟨b, na, nc, rfl, rfl, G.out.1, G.out.2⟩
          · go_simp
            have ba : Below x1.heap.size x1 (x1.alloc (.cells #[.int .i64 0, .int .i64 0, .int .i64 0, .int .i64 0, .slice none 0 0] 28)) := (Below.refl _ _).alloc (Nat.le_refl _) _
            have Za := Z1.fresh ba (rpOb_ok (Blk.new' x1 28 [.int .i64 0, .int .i64 0, .int .i64 0, .int .i64 0, .slice none 0 0])) (fun k hk => by rcases hk with hk | hk; simp only [rpOb, List.mem_singleton] at hk; omega; cases hk)
            refine hK.out _ _ (below_then hS ba) (fun hS => ?_)
            clear hK K ba
            generalize (x1.alloc (.cells #[.int .i64 0, .int .i64 0, .int .i64 0, .int .i64 0, .slice none 0 0] 28)) = xa at *
            generalize x1.heap.size = b at *
            have Zb := Za.swap
            clear Za Z1
            refine any_on (i := 12) rfl (by kernel_rfl) (fun K hK => ?_)
            go_simp
            refine (Calls.mono (doR_any HD.out _ Zb.head HNW.out)) ?_
            rintro e x2 ⟨na, nc, rfl, st⟩
            have S2 := hS.trans (Zb.below st)
            have Z2 := Zb.step st
            go_wp2_with fail
            refine hK.out _ _ S2 (fun hS => ?_)
            clear st S2
            have Zc := Z2.swap
            clear hK K
            refine any_take (i := 13) (v := ?_) rfl (by kernel_rfl) (by kernel_rfl) (by kernel_rfl) (by exact fun _ _ _ h => h) (by rfl) ?_ hS ?_
            rotate_left
            · ((intro w hSw; skip; go_simp) <;> with_reducible rfl)
            (try simp only [Act.put, List.setIfInBounds_toArray, List.set_cons_zero, List.set_cons_succ])
            refine any_take (i := 14) (v := ?_) rfl (by kernel_rfl) (by kernel_rfl) (by kernel_rfl) (by exact fun _ _ _ h => h) (by rfl) ?_ hS ?_
            rotate_left
            · ((intro w hSw; skip; go_simp) <;> with_reducible rfl)
            (try simp only [Act.put, List.setIfInBounds_toArray, List.set_cons_zero, List.set_cons_succ])
            refine any_take (i := 15) (v := ?_) rfl (by kernel_rfl) (by kernel_rfl) (by kernel_rfl) (by exact fun _ _ _ h => h) (by rfl) ?_ hS ?_
            rotate_left
            · ((intro w hSw; skip; go_simp) <;> with_reducible rfl)
            (try simp only [Act.put, List.setIfInBounds_toArray, List.set_cons_zero, List.set_cons_succ])
            have PB : Blk x2 b 28 [.int .i64 0, .int .i64 0, .int .i64 0, .int .i64 0, .slice none 0 0] := Zc.head.holds
            have y0 := blk_at PB 0
            have f0 := blk_frozen PB 0
            have y1 := blk_at PB 1
            have f1 := blk_frozen PB 1
            have y2 := blk_at PB 2
            have f2 := blk_frozen PB 2
            have y3 := blk_at PB 3
            have f3 := blk_frozen PB 3
            have y4 := blk_at PB 4
            have f4 := blk_frozen PB 4
            simp only [List.getElem?_cons_zero, List.getElem?_cons_succ] at y0 y1 y2 y3 y4
            have st5 := rp5_step Zc.head r0 r1 r2 r3
            have S5 := hS.trans (Zc.below st5)
            have Zf := Zc.step st5
            have G : Hid _ := And.intro Zf S5
            unfold rp5 at G S5
            refine any_on (i := 17) rfl (by kernel_rfl) (fun K hK => ?_)
            go_simp
            refine hK.out _ _ S5 (fun hS => ?_)
            clear hK K S5 Zf st5 PB
            refine any_take (i := 18) (v := ?_) rfl (by kernel_rfl) (by kernel_rfl) (by kernel_rfl) (by exact fun _ _ _ h => h) (by rfl) ?_ hS ?_
            rotate_left
            · ((intro w hSw; (try dsimp only at hSw); go_simp) <;> with_reducible rfl)
            (try simp only [Act.put, List.setIfInBounds_toArray, List.set_cons_zero, List.set_cons_succ])
            refine wpAnyH_done (by kernel_rfl) ?_ _
            clear y0 y1 y2 y3 y4 f0 f1 f2 f3 f4 hS
            go_wp2
            go_meet
            exact ⟨b, na, nc, rfl, rfl, G.out.1, G.out.2⟩
        · go_simp
          have ba : Below W0.heap.size W0 (W0.alloc (.cells #[.int .i64 0, .int .i64 0, .int .i64 0, .int .i64 0, .slice none 0 0] 28)) := (Below.refl _ _).alloc (Nat.le_refl _) _
          have Za := Z0.fresh ba (rpOb_ok (Blk.new' W0 28 [.int .i64 0, .int .i64 0, .int .i64 0, .int .i64 0, .slice none 0 0])) (fun k hk => by rcases hk with hk | hk; simp only [rpOb, List.mem_singleton] at hk; omega; cases hk)
          refine hK.out _ _ (below_then hS ba) (fun hS => ?_)
          clear hK K ba
          generalize (W0.alloc (.cells #[.int .i64 0, .int .i64 0, .int .i64 0, .int .i64 0, .slice none 0 0] 28)) = xa at *
          generalize W0.heap.size = b at *
          have Zb := Za.swap
          clear Za Z0
          refine any_on (i := 11) rfl (by kernel_rfl) (fun K hK => ?_)
          go_simp
          refine (Calls.mono (given_any ⟨z1, z2.toNat, z3.toNat, z4⟩ _)) ?_
          rintro e x1 ⟨rfl, b1⟩
          have S1 := below_then hS b1
          have Z1 := Zb.later b1
          go_wp2_with fail
          refine hK.out _ _ S1 (fun hS => ?_)
          clear b1 S1 Zb
          clear hK K
          refine any_on (i := 12) rfl (by kernel_rfl) (fun K hK => ?_)
          go_simp
          refine (Calls.mono (doR_any HD.out _ Z1.head HNW.out)) ?_
          rintro e x2 ⟨na, nc, rfl, st⟩
          have S2 := hS.trans (Z1.below st)
          have Z2 := Z1.step st
          go_wp2_with fail
          refine hK.out _ _ S2 (fun hS => ?_)
          clear st S2 Z1
          have Zc := Z2.swap
          clear hK K
          refine any_take (i := 13) (v := ?_) rfl (by kernel_rfl) (by kernel_rfl) (by kernel_rfl) (by exact fun _ _ _ h => h) (by rfl) ?_ hS ?_
          rotate_left
          · ((intro w hSw; skip; go_simp) <;> with_reducible rfl)
          (try simp only [Act.put, List.setIfInBounds_toArray, List.set_cons_zero, List.set_cons_succ])
          refine any_take (i := 14) (v := ?_) rfl (by kernel_rfl) (by kernel_rfl) (by kernel_rfl) (by exact fun _ _ _ h => h) (by rfl) ?_ hS ?_
          rotate_left
          · ((intro w hSw; skip; go_simp) <;> with_reducible rfl)
          (try simp only [Act.put, List.setIfInBounds_toArray, List.set_cons_zero, List.set_cons_succ])
          refine any_take (i := 15) (v := ?_) rfl (by kernel_rfl) (by kernel_rfl) (by kernel_rfl) (by exact fun _ _ _ h => h) (by rfl) ?_ hS ?_
          rotate_left
          · ((intro w hSw; skip; go_simp) <;> with_reducible rfl)
          (try simp only [Act.put, List.setIfInBounds_toArray, List.set_cons_zero, List.set_cons_succ])
          have PB : Blk x2 b 28 [.int .i64 0, .int .i64 0, .int .i64 0, .int .i64 0, .slice none 0 0] := Zc.head.holds
          have y0 := blk_at PB 0
          have f0 := blk_frozen PB 0
          have y1 := blk_at PB 1
          have f1 := blk_frozen PB 1
          have y2 := blk_at PB 2
          have f2 := blk_frozen PB 2
          have y3 := blk_at PB 3
          have f3 := blk_frozen PB 3
          have y4 := blk_at PB 4
          have f4 := blk_frozen PB 4
          simp only [List.getElem?_cons_zero, List.getElem?_cons_succ] at y0 y1 y2 y3 y4
          have st5 := rp5_step Zc.head r0 r1 r2 r3
          have S5 := hS.trans (Zc.below st5)
          have Zf := Zc.step st5
          have G : Hid _ := And.intro Zf S5
          unfold rp5 at G S5
          refine any_on (i := 17) rfl (by kernel_rfl) (fun K hK => ?_)
          go_simp
          refine hK.out _ _ S5 (fun hS => ?_)
          clear hK K S5 Zf st5 PB
          refine any_take (i := 18) (v := ?_) rfl (by kernel_rfl) (by kernel_rfl) (by kernel_rfl) (by exact fun _ _ _ h => h) (by rfl) ?_ hS ?_
          rotate_left
          · ((intro w hSw; (try dsimp only at hSw); go_simp) <;> with_reducible rfl)
          (try simp only [Act.put, List.setIfInBounds_toArray, List.set_cons_zero, List.set_cons_succ])
          refine wpAnyH_done (by kernel_rfl) ?_ _
          clear y0 y1 y2 y3 y4 f0 f1 f2 f3 f4 hS
          go_wp2
          go_meet
          exact ⟨b, na, nc, rfl, rfl, G.out.1, G.out.2⟩
      case rest =>
      obtain ⟨b, na, nc, rfl, rfl, Zc, bc⟩ := hcut
      clear HZ
      have HY : Hid (∀ W, Below wc.heap.size wc W → W.cell? ⟨b, 0, none⟩ = some (.int .i64 r0)) := fun W bW => by have h := blk_at (Blk.laterB (w := wc) Zc.head.holds bW) 0; simpa using h
      have HBy : Hid (∀ W, Below wc.heap.size wc W → Calls Try.prog 6 #[.pointer (some ⟨g, 0, none⟩)] W fun e w' => ∃ z, e = .returned z ∧ Own w' W.heap.size z (bytM m') ∧ Below W.heap.size W w') := fun W bW => rsBytes_any g m' W ((rvN_rv Zc.tail.head).later bW)
      have HCV : Hid (∀ X, Below wc.heap.size wc X → (convert 25 9 (.slice za zn zc)).run Try.prog X = .ok (.string (str (bytM m))) X) := by
        obtain ⟨_, _, _, e, hcv⟩ := own13_strs (v := .slice za zn zc) Zc.tail.tail.head.holds
        cases e
        exact hcv
      have HZc : Hid _ := And.intro Zc.tail.swap.tail bc
      clear Zc bc
      go_upto_region 9 with fail
      go_cut [55] from 40 to 90 (fun cv wx => cv = .bool false ∧ Sep w.heap.size [rvN g m' (.slice na L.length nc) L] wx ∧ Below w.heap.size w wx)
      case first =>
        by_cases h0 : r0 = 0
        · subst h0
          refine wp_region_held_drew (S := fun W => Below wc.heap.size wc W) (by kernel_rfl) ((Below.refl _ _).drew) (fun hS => ?_)
          refine any_take (i := 0) (v := ?_) rfl (by kernel_rfl) (by kernel_rfl) (by kernel_rfl) (by exact fun _ _ _ h => h) (by rfl) ?_ hS ?_
          rotate_left
          · ((intro w hSw; have y := HY.out _ hSw; go_simp) <;> with_reducible rfl)
          (try simp only [Act.put, List.setIfInBounds_toArray, List.set_cons_zero, List.set_cons_succ])
          refine any_take (i := 1) (v := ?_) rfl (by kernel_rfl) (by kernel_rfl) (by kernel_rfl) (by exact fun _ _ _ h => h) (by rfl) ?_ hS ?_
          rotate_left
          · ((intro w hSw; have y := HY.out _ hSw; go_simp) <;> with_reducible rfl)
          (try simp only [Act.put, List.setIfInBounds_toArray, List.set_cons_zero, List.set_cons_succ])
          refine any_take (i := 2) (v := ?_) rfl (by kernel_rfl) (by kernel_rfl) (by kernel_rfl) (by exact fun _ _ _ h => h) (by rfl) ?_ hS ?_
          rotate_left
          · ((intro w hSw; have y := HY.out _ hSw; go_simp) <;> with_reducible rfl)
          (try simp only [Act.put, List.setIfInBounds_toArray, List.set_cons_zero, List.set_cons_succ])
          refine any_take (i := 3) (v := ?_) rfl (by kernel_rfl) (by kernel_rfl) (by kernel_rfl) (by exact fun _ _ _ h => h) (by rfl) ?_ hS ?_
          rotate_left
          · ((intro w hSw; have y := HY.out _ hSw; go_simp) <;> with_reducible rfl)
          (try simp only [Act.put, List.setIfInBounds_toArray, List.set_cons_zero, List.set_cons_succ])
          refine any_skip (i := 4) rfl (by kernel_rfl) (by kernel_rfl) (by kernel_rfl) (by exact fun _ _ _ h => h) (by rfl) hS ?_
          (try simp only [Act.put, List.setIfInBounds_toArray, List.set_cons_zero, List.set_cons_succ])
          refine any_skip (i := 5) rfl (by kernel_rfl) (by kernel_rfl) (by kernel_rfl) (by exact fun _ _ _ h => h) (by rfl) hS ?_
          (try simp only [Act.put, List.setIfInBounds_toArray, List.set_cons_zero, List.set_cons_succ])
          refine any_skip (i := 6) rfl (by kernel_rfl) (by kernel_rfl) (by kernel_rfl) (by exact fun _ _ _ h => h) (by rfl) hS ?_
          (try simp only [Act.put, List.setIfInBounds_toArray, List.set_cons_zero, List.set_cons_succ])
          refine any_skip (i := 7) rfl (by kernel_rfl) (by kernel_rfl) (by kernel_rfl) (by exact fun _ _ _ h => h) (by rfl) hS ?_
          (try simp only [Act.put, List.setIfInBounds_toArray, List.set_cons_zero, List.set_cons_succ])
          refine any_skip (i := 8) rfl (by kernel_rfl) (by kernel_rfl) (by kernel_rfl) (by exact fun _ _ _ h => h) (by rfl) hS ?_
          (try simp only [Act.put, List.setIfInBounds_toArray, List.set_cons_zero, List.set_cons_succ])
          refine any_skip (i := 9) rfl (by kernel_rfl) (by kernel_rfl) (by kernel_rfl) (by exact fun _ _ _ h => h) (by rfl) hS ?_
          (try simp only [Act.put, List.setIfInBounds_toArray, List.set_cons_zero, List.set_cons_succ])
          refine any_skip (i := 10) rfl (by kernel_rfl) (by kernel_rfl) (by kernel_rfl) (by exact fun _ _ _ h => h) (by rfl) hS ?_
          (try simp only [Act.put, List.setIfInBounds_toArray, List.set_cons_zero, List.set_cons_succ])
          refine any_skip (i := 11) rfl (by kernel_rfl) (by kernel_rfl) (by kernel_rfl) (by exact fun _ _ _ h => h) (by rfl) hS ?_
          (try simp only [Act.put, List.setIfInBounds_toArray, List.set_cons_zero, List.set_cons_succ])
          refine any_skip (i := 12) rfl (by kernel_rfl) (by kernel_rfl) (by kernel_rfl) (by exact fun _ _ _ h => h) (by rfl) hS ?_
          (try simp only [Act.put, List.setIfInBounds_toArray, List.set_cons_zero, List.set_cons_succ])
          refine any_skip (i := 13) rfl (by kernel_rfl) (by kernel_rfl) (by kernel_rfl) (by exact fun _ _ _ h => h) (by rfl) hS ?_
          (try simp only [Act.put, List.setIfInBounds_toArray, List.set_cons_zero, List.set_cons_succ])
          refine any_skip (i := 14) rfl (by kernel_rfl) (by kernel_rfl) (by kernel_rfl) (by exact fun _ _ _ h => h) (by rfl) hS ?_
          (try simp only [Act.put, List.setIfInBounds_toArray, List.set_cons_zero, List.set_cons_succ])
          refine any_take (i := 15) (v := ?_) rfl (by kernel_rfl) (by kernel_rfl) (by kernel_rfl) (by exact fun _ _ _ h => h) (by rfl) ?_ hS ?_
          rotate_left
          · ((intro w hSw; skip; go_simp) <;> with_reducible rfl)
          (try simp only [Act.put, List.setIfInBounds_toArray, List.set_cons_zero, List.set_cons_succ])
          refine wpAnyH_done (by kernel_rfl) ?_ _
          clear hS
          go_wp2
          go_meet
          exact ⟨rfl, HZc.out.1.drew, below_then HZc.out.2 (Below.refl _ _).drew⟩
        · obtain ⟨rfl, rfl⟩ : m' = m ∧ L = [] := by have := HRf.out h0; simpa using this
          have d0 : (r0 != 0) = true := by rw [bne_iff_ne]; exact h0
          clear h0 HRf HD HNt
          refine wp_region_held_drew (S := fun W => Below wc.heap.size wc W) (by kernel_rfl) ((Below.refl _ _).drew) (fun hS => ?_)
          refine any_take (i := 0) (v := ?_) rfl (by kernel_rfl) (by kernel_rfl) (by kernel_rfl) (by exact fun _ _ _ h => h) (by rfl) ?_ hS ?_
          rotate_left
          · ((intro w hSw; have y := HY.out _ hSw; go_simp) <;> with_reducible rfl)
          (try simp only [Act.put, List.setIfInBounds_toArray, List.set_cons_zero, List.set_cons_succ])
          refine any_take (i := 1) (v := ?_) rfl (by kernel_rfl) (by kernel_rfl) (by kernel_rfl) (by exact fun _ _ _ h => h) (by rfl) ?_ hS ?_
          rotate_left
          · ((intro w hSw; have y := HY.out _ hSw; go_simp) <;> with_reducible rfl)
          (try simp only [Act.put, List.setIfInBounds_toArray, List.set_cons_zero, List.set_cons_succ])
          refine any_take (i := 2) (v := ?_) rfl (by kernel_rfl) (by kernel_rfl) (by kernel_rfl) (by exact fun _ _ _ h => h) (by rfl) ?_ hS ?_
          rotate_left
          · ((intro w hSw; have y := HY.out _ hSw; go_simp) <;> with_reducible rfl)
          (try simp only [Act.put, List.setIfInBounds_toArray, List.set_cons_zero, List.set_cons_succ])
          refine any_take (i := 3) (v := ?_) rfl (by kernel_rfl) (by kernel_rfl) (by kernel_rfl) (by exact fun _ _ _ h => h) (by rfl) ?_ hS ?_
          rotate_left
          · ((intro w hSw; have y := HY.out _ hSw; go_simp) <;> with_reducible rfl)
          (try simp only [Act.put, List.setIfInBounds_toArray, List.set_cons_zero, List.set_cons_succ])
          refine any_take (i := 4) (v := ?_) rfl (by kernel_rfl) (by kernel_rfl) (by kernel_rfl) (by exact fun _ _ _ h => h) (by rfl) ?_ hS ?_
          rotate_left
          · ((intro w hSw; skip; go_simp) <;> with_reducible rfl)
          (try simp only [Act.put, List.setIfInBounds_toArray, List.set_cons_zero, List.set_cons_succ])
          refine any_take (i := 7) (v := ?_) rfl (by kernel_rfl) (by kernel_rfl) (by kernel_rfl) (by exact fun _ _ _ h => h) (by rfl) ?_ hS ?_
          rotate_left
          · ((intro w hSw; skip; go_simp) <;> with_reducible rfl)
          (try simp only [Act.put, List.setIfInBounds_toArray, List.set_cons_zero, List.set_cons_succ])
          refine any_take (i := 8) (v := ?_) rfl (by kernel_rfl) (by kernel_rfl) (by kernel_rfl) (by exact fun _ _ _ h => h) (by rfl) ?_ hS ?_
          rotate_left
          · ((intro w hSw; have y := HCV.out _ hSw; go_simp) <;> with_reducible rfl)
          (try simp only [Act.put, List.setIfInBounds_toArray, List.set_cons_zero, List.set_cons_succ])
          refine any_on (i := 5) rfl (by kernel_rfl) (fun K hK => ?_)
          go_simp
          refine (Calls.mono (HBy.out _ hS)) ?_
          rintro e x5 ⟨z5, rfl, o5, b5⟩
          obtain ⟨a5, n5, c5, rfl, h5⟩ := own13_strs o5
          have h6 := h5 _ (Below.refl _ _)
          have S5 := below_then hS b5
          clear h5 o5 b5
          go_wp2_with fail
          refine hK.out _ _ S5 (fun hS => ?_)
          clear hK K S5
          refine any_on (i := 6) rfl (by kernel_rfl) (fun K hK => ?_)
          go_simp
          refine hK.out _ _ hS (fun hS => ?_)
          clear hK K h6
          refine any_take (i := 9) (v := ?_) rfl (by kernel_rfl) (by kernel_rfl) (by kernel_rfl) (by exact fun _ _ _ h => h) (by rfl) ?_ hS ?_
          rotate_left
          · ((intro w hSw; skip; go_simp) <;> with_reducible rfl)
          (try simp only [Act.put, List.setIfInBounds_toArray, List.set_cons_zero, List.set_cons_succ])
          refine any_take (i := 10) (v := ?_) rfl (by kernel_rfl) (by kernel_rfl) (by kernel_rfl) (by exact fun _ _ _ h => h) (by rfl) ?_ hS ?_
          rotate_left
          · ((intro w hSw; skip; go_simp) <;> with_reducible rfl)
          (try simp only [Act.put, List.setIfInBounds_toArray, List.set_cons_zero, List.set_cons_succ])
          refine any_take (i := 11) (v := ?_) rfl (by kernel_rfl) (by kernel_rfl) (by kernel_rfl) (by exact fun _ _ _ h => h) (by rfl) ?_ hS ?_
          rotate_left
          · ((intro w hSw; skip; go_simp) <;> with_reducible rfl)
          (try simp only [Act.put, List.setIfInBounds_toArray, List.set_cons_zero, List.set_cons_succ])
          refine any_take (i := 12) (v := ?_) rfl (by kernel_rfl) (by kernel_rfl) (by kernel_rfl) (by exact fun _ _ _ h => h) (by rfl) ?_ hS ?_
          rotate_left
          · ((intro w hSw; skip; go_simp) <;> with_reducible rfl)
          (try simp only [Act.put, List.setIfInBounds_toArray, List.set_cons_zero, List.set_cons_succ])
          refine any_take (i := 13) (v := ?_) rfl (by kernel_rfl) (by kernel_rfl) (by kernel_rfl) (by exact fun _ _ _ h => h) (by rfl) ?_ hS ?_
          rotate_left
          · ((intro w hSw; skip; go_simp) <;> with_reducible rfl)
          (try simp only [Act.put, List.setIfInBounds_toArray, List.set_cons_zero, List.set_cons_succ])
          refine any_take (i := 14) (v := ?_) rfl (by kernel_rfl) (by kernel_rfl) (by kernel_rfl) (by exact fun _ _ _ h => h) (by rfl) ?_ hS ?_
          rotate_left
          · ((intro w hSw; skip; go_simp) <;> with_reducible rfl)
          (try simp only [Act.put, List.setIfInBounds_toArray, List.set_cons_zero, List.set_cons_succ])
          refine any_take (i := 15) (v := ?_) rfl (by kernel_rfl) (by kernel_rfl) (by kernel_rfl) (by exact fun _ _ _ h => h) (by rfl) ?_ hS ?_
          rotate_left
          · ((intro w hSw; skip; go_simp) <;> with_reducible rfl)
          (try simp only [Act.put, List.setIfInBounds_toArray, List.set_cons_zero, List.set_cons_succ])
          refine wpAnyH_done (by kernel_rfl) ?_ _
          have R : Hid _ := And.intro (HZc.out.1.later hS) (below_then HZc.out.2 hS)
          clear hS
          go_wp2
          go_meet
          exact ⟨rfl, R.out.1, R.out.2⟩
      case rest =>
      obtain ⟨rfl, Zd, bd⟩ := hcut
      have HN9 : Hid _ := And.intro Zd bd
      have hLl := HNt.out.2.2
      clear Zd bd HY HBy HCV HZc HD HRf
      go_wp2_with fail
      go_loopw [8] (fun jv wx => ∃ j : Nat, jv = .int .i64 j ∧ j ≤ L.length ∧ Sep w.heap.size [rvN g m' (.slice na L.length nc) L] wx ∧ Below w.heap.size w wx) (fun jv _ => L.length - (intOf jv).toNat)
      case atStart => exact ⟨0, rfl, by omega, HN9.out.1, HN9.out.2⟩
      case round =>
        clear HN9
        obtain ⟨j, rfl, hj, Zj, bj⟩ := hrel
        have HZj : Hid _ := And.intro Zj bj
        by_cases hjl : j < L.length
        · obtain ⟨a', c', hv, hc', hcl⟩ := Zj.head.holds.2.open
          cases hv
          have q1 : (j : Int) < (L.length : Int) := by omega
          clear Zj bj
          cases j with
          | zero =>
            have n1 := hcl 0 hjl
            obtain ⟨nb, rfl, -, n1, -⟩ := n1
            have hne := (HNt.out.1 0 hjl).1
            have HJ : Hid (∀ W, Below wr.heap.size wr W → W.cell? ⟨nb, 0, none⟩ = some (.int .i64 L[0].1) ∧ W.cell? ⟨ab, ao + k * 5, none⟩ = some (.int .i64 z0)) := fun W bW => ⟨by have := cell_later8 n1 bW; simpa using this, (HC.out _ (below_then HZj.out.2 bW)).1⟩
            generalize L[0].1 = x1 at *
            have dxe : (x1 == z0) = false := by rw [beq_eq_false_iff_ne]; exact hne
            have v4 : (0 : Int) < (L.length : Int) := by omega
            clear hcl n1 hne
            go_upto_region 14 with fail
            go_cut [90] from 62 to 90 (fun cv wx => cv = .bool false ∧ Sep w.heap.size [rvN g m' (.slice (some ⟨nb, 0, none⟩) L.length nc) L] wx ∧ Below w.heap.size w wx)
            case first =>
              refine wp_region_held_drew (S := fun W => Below wr.heap.size wr W) (by kernel_rfl) ((Below.refl _ _).drew) (fun hS => ?_)
              refine any_take (i := 0) (v := ?_) rfl (by kernel_rfl) (by kernel_rfl) (by kernel_rfl) (by exact fun _ _ _ h => h) (by rfl) ?_ hS ?_
              rotate_left
              · ((intro w hSw; obtain ⟨n1, q0⟩ := HJ.out _ hSw; go_simp) <;> with_reducible rfl)
              (try simp only [Act.put, List.setIfInBounds_toArray, List.set_cons_zero, List.set_cons_succ])
              refine any_take (i := 1) (v := ?_) rfl (by kernel_rfl) (by kernel_rfl) (by kernel_rfl) (by exact fun _ _ _ h => h) (by rfl) ?_ hS ?_
              rotate_left
              · ((intro w hSw; obtain ⟨n1, q0⟩ := HJ.out _ hSw; go_simp) <;> with_reducible rfl)
              (try simp only [Act.put, List.setIfInBounds_toArray, List.set_cons_zero, List.set_cons_succ])
              refine any_take (i := 2) (v := ?_) rfl (by kernel_rfl) (by kernel_rfl) (by kernel_rfl) (by exact fun _ _ _ h => h) (by rfl) ?_ hS ?_
              rotate_left
              · ((intro w hSw; obtain ⟨n1, q0⟩ := HJ.out _ hSw; go_simp) <;> with_reducible rfl)
              (try simp only [Act.put, List.setIfInBounds_toArray, List.set_cons_zero, List.set_cons_succ])
              refine any_take (i := 3) (v := ?_) rfl (by kernel_rfl) (by kernel_rfl) (by kernel_rfl) (by exact fun _ _ _ h => h) (by rfl) ?_ hS ?_
              rotate_left
              · ((intro w hSw; obtain ⟨n1, q0⟩ := HJ.out _ hSw; go_simp) <;> with_reducible rfl)
              (try simp only [Act.put, List.setIfInBounds_toArray, List.set_cons_zero, List.set_cons_succ])
              refine any_take (i := 4) (v := ?_) rfl (by kernel_rfl) (by kernel_rfl) (by kernel_rfl) (by exact fun _ _ _ h => h) (by rfl) ?_ hS ?_
              rotate_left
              · ((intro w hSw; obtain ⟨n1, q0⟩ := HJ.out _ hSw; go_simp) <;> with_reducible rfl)
              (try simp only [Act.put, List.setIfInBounds_toArray, List.set_cons_zero, List.set_cons_succ])
              refine any_take (i := 5) (v := ?_) rfl (by kernel_rfl) (by kernel_rfl) (by kernel_rfl) (by exact fun _ _ _ h => h) (by rfl) ?_ hS ?_
              rotate_left
              · ((intro w hSw; obtain ⟨n1, q0⟩ := HJ.out _ hSw; go_simp) <;> with_reducible rfl)
              (try simp only [Act.put, List.setIfInBounds_toArray, List.set_cons_zero, List.set_cons_succ])
              refine any_take (i := 6) (v := ?_) rfl (by kernel_rfl) (by kernel_rfl) (by kernel_rfl) (by exact fun _ _ _ h => h) (by rfl) ?_ hS ?_
              rotate_left
              · ((intro w hSw; obtain ⟨n1, q0⟩ := HJ.out _ hSw; go_simp) <;> with_reducible rfl)
              (try simp only [Act.put, List.setIfInBounds_toArray, List.set_cons_zero, List.set_cons_succ])
              refine any_take (i := 7) (v := ?_) rfl (by kernel_rfl) (by kernel_rfl) (by kernel_rfl) (by exact fun _ _ _ h => h) (by rfl) ?_ hS ?_
              rotate_left
              · ((intro w hSw; obtain ⟨n1, q0⟩ := HJ.out _ hSw; go_simp) <;> with_reducible rfl)
              (try simp only [Act.put, List.setIfInBounds_toArray, List.set_cons_zero, List.set_cons_succ])
              refine any_take (i := 8) (v := ?_) rfl (by kernel_rfl) (by kernel_rfl) (by kernel_rfl) (by exact fun _ _ _ h => h) (by rfl) ?_ hS ?_
              rotate_left
              · ((intro w hSw; obtain ⟨n1, q0⟩ := HJ.out _ hSw; go_simp) <;> with_reducible rfl)
              (try simp only [Act.put, List.setIfInBounds_toArray, List.set_cons_zero, List.set_cons_succ])
              refine any_take (i := 9) (v := ?_) rfl (by kernel_rfl) (by kernel_rfl) (by kernel_rfl) (by exact fun _ _ _ h => h) (by rfl) ?_ hS ?_
              rotate_left
              · ((intro w hSw; obtain ⟨n1, q0⟩ := HJ.out _ hSw; go_simp) <;> with_reducible rfl)
              (try simp only [Act.put, List.setIfInBounds_toArray, List.set_cons_zero, List.set_cons_succ])
              refine any_take (i := 10) (v := ?_) rfl (by kernel_rfl) (by kernel_rfl) (by kernel_rfl) (by exact fun _ _ _ h => h) (by rfl) ?_ hS ?_
              rotate_left
              · ((intro w hSw; obtain ⟨n1, q0⟩ := HJ.out _ hSw; go_simp) <;> with_reducible rfl)
              (try simp only [Act.put, List.setIfInBounds_toArray, List.set_cons_zero, List.set_cons_succ])
              refine any_take (i := 11) (v := ?_) rfl (by kernel_rfl) (by kernel_rfl) (by kernel_rfl) (by exact fun _ _ _ h => h) (by rfl) ?_ hS ?_
              rotate_left
              · ((intro w hSw; obtain ⟨n1, q0⟩ := HJ.out _ hSw; go_simp) <;> with_reducible rfl)
              (try simp only [Act.put, List.setIfInBounds_toArray, List.set_cons_zero, List.set_cons_succ])
              refine any_take (i := 12) (v := ?_) rfl (by kernel_rfl) (by kernel_rfl) (by kernel_rfl) (by exact fun _ _ _ h => h) (by rfl) ?_ hS ?_
              rotate_left
              · ((intro w hSw; obtain ⟨n1, q0⟩ := HJ.out _ hSw; go_simp) <;> with_reducible rfl)
              (try simp only [Act.put, List.setIfInBounds_toArray, List.set_cons_zero, List.set_cons_succ])
              refine any_take (i := 13) (v := ?_) rfl (by kernel_rfl) (by kernel_rfl) (by kernel_rfl) (by exact fun _ _ _ h => h) (by rfl) ?_ hS ?_
              rotate_left
              · ((intro w hSw; obtain ⟨n1, q0⟩ := HJ.out _ hSw; go_simp) <;> with_reducible rfl)
              (try simp only [Act.put, List.setIfInBounds_toArray, List.set_cons_zero, List.set_cons_succ])
              refine any_take (i := 14) (v := ?_) rfl (by kernel_rfl) (by kernel_rfl) (by kernel_rfl) (by exact fun _ _ _ h => h) (by rfl) ?_ hS ?_
              rotate_left
              · ((intro w hSw; obtain ⟨n1, q0⟩ := HJ.out _ hSw; go_simp) <;> with_reducible rfl)
              (try simp only [Act.put, List.setIfInBounds_toArray, List.set_cons_zero, List.set_cons_succ])
              refine any_skip (i := 15) rfl (by kernel_rfl) (by kernel_rfl) (by kernel_rfl) (by exact fun _ _ _ h => h) (by rfl) hS ?_
              (try simp only [Act.put, List.setIfInBounds_toArray, List.set_cons_zero, List.set_cons_succ])
              refine any_skip (i := 16) rfl (by kernel_rfl) (by kernel_rfl) (by kernel_rfl) (by exact fun _ _ _ h => h) (by rfl) hS ?_
              (try simp only [Act.put, List.setIfInBounds_toArray, List.set_cons_zero, List.set_cons_succ])
              refine any_skip (i := 17) rfl (by kernel_rfl) (by kernel_rfl) (by kernel_rfl) (by exact fun _ _ _ h => h) (by rfl) hS ?_
              (try simp only [Act.put, List.setIfInBounds_toArray, List.set_cons_zero, List.set_cons_succ])
              refine any_skip (i := 18) rfl (by kernel_rfl) (by kernel_rfl) (by kernel_rfl) (by exact fun _ _ _ h => h) (by rfl) hS ?_
              (try simp only [Act.put, List.setIfInBounds_toArray, List.set_cons_zero, List.set_cons_succ])
              refine any_skip (i := 19) rfl (by kernel_rfl) (by kernel_rfl) (by kernel_rfl) (by exact fun _ _ _ h => h) (by rfl) hS ?_
              (try simp only [Act.put, List.setIfInBounds_toArray, List.set_cons_zero, List.set_cons_succ])
              refine any_skip (i := 20) rfl (by kernel_rfl) (by kernel_rfl) (by kernel_rfl) (by exact fun _ _ _ h => h) (by rfl) hS ?_
              (try simp only [Act.put, List.setIfInBounds_toArray, List.set_cons_zero, List.set_cons_succ])
              refine any_skip (i := 21) rfl (by kernel_rfl) (by kernel_rfl) (by kernel_rfl) (by exact fun _ _ _ h => h) (by rfl) hS ?_
              (try simp only [Act.put, List.setIfInBounds_toArray, List.set_cons_zero, List.set_cons_succ])
              refine any_skip (i := 22) rfl (by kernel_rfl) (by kernel_rfl) (by kernel_rfl) (by exact fun _ _ _ h => h) (by rfl) hS ?_
              (try simp only [Act.put, List.setIfInBounds_toArray, List.set_cons_zero, List.set_cons_succ])
              refine any_skip (i := 23) rfl (by kernel_rfl) (by kernel_rfl) (by kernel_rfl) (by exact fun _ _ _ h => h) (by rfl) hS ?_
              (try simp only [Act.put, List.setIfInBounds_toArray, List.set_cons_zero, List.set_cons_succ])
              refine any_skip (i := 24) rfl (by kernel_rfl) (by kernel_rfl) (by kernel_rfl) (by exact fun _ _ _ h => h) (by rfl) hS ?_
              (try simp only [Act.put, List.setIfInBounds_toArray, List.set_cons_zero, List.set_cons_succ])
              refine any_skip (i := 25) rfl (by kernel_rfl) (by kernel_rfl) (by kernel_rfl) (by exact fun _ _ _ h => h) (by rfl) hS ?_
              (try simp only [Act.put, List.setIfInBounds_toArray, List.set_cons_zero, List.set_cons_succ])
              refine any_skip (i := 26) rfl (by kernel_rfl) (by kernel_rfl) (by kernel_rfl) (by exact fun _ _ _ h => h) (by rfl) hS ?_
              (try simp only [Act.put, List.setIfInBounds_toArray, List.set_cons_zero, List.set_cons_succ])
              refine any_take (i := 27) (v := ?_) rfl (by kernel_rfl) (by kernel_rfl) (by kernel_rfl) (by exact fun _ _ _ h => h) (by rfl) ?_ hS ?_
              rotate_left
              · ((intro w hSw; skip; go_simp) <;> with_reducible rfl)
              (try simp only [Act.put, List.setIfInBounds_toArray, List.set_cons_zero, List.set_cons_succ])
              refine any_take (i := 28) (v := ?_) rfl (by kernel_rfl) (by kernel_rfl) (by kernel_rfl) (by exact fun _ _ _ h => h) (by rfl) ?_ hS ?_
              rotate_left
              · ((intro w hSw; skip; go_simp) <;> with_reducible rfl)
              (try simp only [Act.put, List.setIfInBounds_toArray, List.set_cons_zero, List.set_cons_succ])
              refine wpAnyH_done (by kernel_rfl) ?_ _
              clear hS
              go_wp2
              go_meet
              exact ⟨rfl, HZj.out.1.drew, below_then HZj.out.2 (Below.refl _ _).drew⟩
            case rest =>
            obtain ⟨rfl, Zk, bk⟩ := hcut
            have R : Hid _ := And.intro Zk bk
            clear Zk bk HJ HZj
            go_wp2
            go_roundw
            case rel => exact ⟨0 + 1, by go_num, by omega, R.out.1, R.out.2⟩
            case measure => simp [intOf]; omega
          | succ p =>
            have n1 := hcl (p + 1) hjl
            obtain ⟨nb, rfl, -, n1, -⟩ := n1
            obtain ⟨nb', e', -, n0, -⟩ := hcl p (by omega)
            cases e'
            have hne := (HNt.out.1 (p + 1) hjl).1
            have hri := HNt.out.2.1 p hjl
            have HJ : Hid (∀ W, Below wr.heap.size wr W → W.cell? ⟨nb, (p + 1) * 2, none⟩ = some (.int .i64 L[p + 1].1) ∧ W.cell? ⟨nb, p * 2, none⟩ = some (.int .i64 L[p].1) ∧ W.cell? ⟨ab, ao + k * 5, none⟩ = some (.int .i64 z0)) := fun W bW => ⟨cell_later8 n1 bW, cell_later8 n0 bW, (HC.out _ (below_then HZj.out.2 bW)).1⟩
            generalize L[p + 1].1 = x1 at *
            generalize L[p].1 = x0 at *
            have dxe : (x1 == z0) = false := by rw [beq_eq_false_iff_ne]; exact hne
            have v8 : decide (x1 ≤ x0) = false := decide_eq_false (by omega)
            have v0 : (0 : Int) ≤ (p : Int) + 1 := by omega
            have v3 : ((p : Int) + 1).toNat = p + 1 := by omega
            have v4 : (p : Int) + 1 < (L.length : Int) := by omega
            have v5 : (p : Int) < (L.length : Int) := by omega
            have v7 : (p : Int) + 1 - 1 = (p : Int) := by omega
            have v10 : IntKind.i64.wrap (p : Int) = (p : Int) := by rw [IntKind.wrap_i64]; omega
            have v9 : decide ((p : Int) + 1 > 0) = true := decide_eq_true (by omega)
            clear hcl n1 n0 hne hri
            go_upto_region 14 with fail
            go_cut [90] from 62 to 90 (fun cv wx => cv = .bool false ∧ Sep w.heap.size [rvN g m' (.slice (some ⟨nb, 0, none⟩) L.length nc) L] wx ∧ Below w.heap.size w wx)
            case first =>
              refine wp_region_held_drew (S := fun W => Below wr.heap.size wr W) (by kernel_rfl) ((Below.refl _ _).drew) (fun hS => ?_)
              refine any_take (i := 0) (v := ?_) rfl (by kernel_rfl) (by kernel_rfl) (by kernel_rfl) (by exact fun _ _ _ h => h) (by rfl) ?_ hS ?_
              rotate_left
              · ((intro w hSw; obtain ⟨n1, n0, q0⟩ := HJ.out _ hSw; go_simp) <;> with_reducible rfl)
              (try simp only [Act.put, List.setIfInBounds_toArray, List.set_cons_zero, List.set_cons_succ])
              refine any_take (i := 1) (v := ?_) rfl (by kernel_rfl) (by kernel_rfl) (by kernel_rfl) (by exact fun _ _ _ h => h) (by rfl) ?_ hS ?_
              rotate_left
              · ((intro w hSw; obtain ⟨n1, n0, q0⟩ := HJ.out _ hSw; go_simp) <;> with_reducible rfl)
              (try simp only [Act.put, List.setIfInBounds_toArray, List.set_cons_zero, List.set_cons_succ])
              refine any_take (i := 2) (v := ?_) rfl (by kernel_rfl) (by kernel_rfl) (by kernel_rfl) (by exact fun _ _ _ h => h) (by rfl) ?_ hS ?_
              rotate_left
              · ((intro w hSw; obtain ⟨n1, n0, q0⟩ := HJ.out _ hSw; go_simp) <;> with_reducible rfl)
              (try simp only [Act.put, List.setIfInBounds_toArray, List.set_cons_zero, List.set_cons_succ])
              refine any_take (i := 3) (v := ?_) rfl (by kernel_rfl) (by kernel_rfl) (by kernel_rfl) (by exact fun _ _ _ h => h) (by rfl) ?_ hS ?_
              rotate_left
              · ((intro w hSw; obtain ⟨n1, n0, q0⟩ := HJ.out _ hSw; go_simp) <;> with_reducible rfl)
              (try simp only [Act.put, List.setIfInBounds_toArray, List.set_cons_zero, List.set_cons_succ])
              refine any_take (i := 4) (v := ?_) rfl (by kernel_rfl) (by kernel_rfl) (by kernel_rfl) (by exact fun _ _ _ h => h) (by rfl) ?_ hS ?_
              rotate_left
              · ((intro w hSw; obtain ⟨n1, n0, q0⟩ := HJ.out _ hSw; go_simp) <;> with_reducible rfl)
              (try simp only [Act.put, List.setIfInBounds_toArray, List.set_cons_zero, List.set_cons_succ])
              refine any_take (i := 5) (v := ?_) rfl (by kernel_rfl) (by kernel_rfl) (by kernel_rfl) (by exact fun _ _ _ h => h) (by rfl) ?_ hS ?_
              rotate_left
              · ((intro w hSw; obtain ⟨n1, n0, q0⟩ := HJ.out _ hSw; go_simp) <;> with_reducible rfl)
              (try simp only [Act.put, List.setIfInBounds_toArray, List.set_cons_zero, List.set_cons_succ])
              refine any_take (i := 6) (v := ?_) rfl (by kernel_rfl) (by kernel_rfl) (by kernel_rfl) (by exact fun _ _ _ h => h) (by rfl) ?_ hS ?_
              rotate_left
              · ((intro w hSw; obtain ⟨n1, n0, q0⟩ := HJ.out _ hSw; go_simp) <;> with_reducible rfl)
              (try simp only [Act.put, List.setIfInBounds_toArray, List.set_cons_zero, List.set_cons_succ])
              refine any_take (i := 7) (v := ?_) rfl (by kernel_rfl) (by kernel_rfl) (by kernel_rfl) (by exact fun _ _ _ h => h) (by rfl) ?_ hS ?_
              rotate_left
              · ((intro w hSw; obtain ⟨n1, n0, q0⟩ := HJ.out _ hSw; go_simp) <;> with_reducible rfl)
              (try simp only [Act.put, List.setIfInBounds_toArray, List.set_cons_zero, List.set_cons_succ])
              refine any_take (i := 8) (v := ?_) rfl (by kernel_rfl) (by kernel_rfl) (by kernel_rfl) (by exact fun _ _ _ h => h) (by rfl) ?_ hS ?_
              rotate_left
              · ((intro w hSw; obtain ⟨n1, n0, q0⟩ := HJ.out _ hSw; go_simp) <;> with_reducible rfl)
              (try simp only [Act.put, List.setIfInBounds_toArray, List.set_cons_zero, List.set_cons_succ])
              refine any_take (i := 9) (v := ?_) rfl (by kernel_rfl) (by kernel_rfl) (by kernel_rfl) (by exact fun _ _ _ h => h) (by rfl) ?_ hS ?_
              rotate_left
              · ((intro w hSw; obtain ⟨n1, n0, q0⟩ := HJ.out _ hSw; go_simp) <;> with_reducible rfl)
              (try simp only [Act.put, List.setIfInBounds_toArray, List.set_cons_zero, List.set_cons_succ])
              refine any_take (i := 10) (v := ?_) rfl (by kernel_rfl) (by kernel_rfl) (by kernel_rfl) (by exact fun _ _ _ h => h) (by rfl) ?_ hS ?_
              rotate_left
              · ((intro w hSw; obtain ⟨n1, n0, q0⟩ := HJ.out _ hSw; go_simp) <;> with_reducible rfl)
              (try simp only [Act.put, List.setIfInBounds_toArray, List.set_cons_zero, List.set_cons_succ])
              refine any_take (i := 11) (v := ?_) rfl (by kernel_rfl) (by kernel_rfl) (by kernel_rfl) (by exact fun _ _ _ h => h) (by rfl) ?_ hS ?_
              rotate_left
              · ((intro w hSw; obtain ⟨n1, n0, q0⟩ := HJ.out _ hSw; go_simp) <;> with_reducible rfl)
              (try simp only [Act.put, List.setIfInBounds_toArray, List.set_cons_zero, List.set_cons_succ])
              refine any_take (i := 12) (v := ?_) rfl (by kernel_rfl) (by kernel_rfl) (by kernel_rfl) (by exact fun _ _ _ h => h) (by rfl) ?_ hS ?_
              rotate_left
              · ((intro w hSw; obtain ⟨n1, n0, q0⟩ := HJ.out _ hSw; go_simp) <;> with_reducible rfl)
              (try simp only [Act.put, List.setIfInBounds_toArray, List.set_cons_zero, List.set_cons_succ])
              refine any_take (i := 13) (v := ?_) rfl (by kernel_rfl) (by kernel_rfl) (by kernel_rfl) (by exact fun _ _ _ h => h) (by rfl) ?_ hS ?_
              rotate_left
              · ((intro w hSw; obtain ⟨n1, n0, q0⟩ := HJ.out _ hSw; go_simp) <;> with_reducible rfl)
              (try simp only [Act.put, List.setIfInBounds_toArray, List.set_cons_zero, List.set_cons_succ])
              refine any_take (i := 14) (v := ?_) rfl (by kernel_rfl) (by kernel_rfl) (by kernel_rfl) (by exact fun _ _ _ h => h) (by rfl) ?_ hS ?_
              rotate_left
              · ((intro w hSw; obtain ⟨n1, n0, q0⟩ := HJ.out _ hSw; go_simp) <;> with_reducible rfl)
              (try simp only [Act.put, List.setIfInBounds_toArray, List.set_cons_zero, List.set_cons_succ])
              refine any_take (i := 15) (v := ?_) rfl (by kernel_rfl) (by kernel_rfl) (by kernel_rfl) (by exact fun _ _ _ h => h) (by rfl) ?_ hS ?_
              rotate_left
              · ((intro w hSw; obtain ⟨n1, n0, q0⟩ := HJ.out _ hSw; go_simp) <;> with_reducible rfl)
              (try simp only [Act.put, List.setIfInBounds_toArray, List.set_cons_zero, List.set_cons_succ])
              refine any_take (i := 16) (v := ?_) rfl (by kernel_rfl) (by kernel_rfl) (by kernel_rfl) (by exact fun _ _ _ h => h) (by rfl) ?_ hS ?_
              rotate_left
              · ((intro w hSw; obtain ⟨n1, n0, q0⟩ := HJ.out _ hSw; go_simp) <;> with_reducible rfl)
              (try simp only [Act.put, List.setIfInBounds_toArray, List.set_cons_zero, List.set_cons_succ])
              refine any_take (i := 17) (v := ?_) rfl (by kernel_rfl) (by kernel_rfl) (by kernel_rfl) (by exact fun _ _ _ h => h) (by rfl) ?_ hS ?_
              rotate_left
              · ((intro w hSw; obtain ⟨n1, n0, q0⟩ := HJ.out _ hSw; go_simp) <;> with_reducible rfl)
              (try simp only [Act.put, List.setIfInBounds_toArray, List.set_cons_zero, List.set_cons_succ])
              refine any_take (i := 18) (v := ?_) rfl (by kernel_rfl) (by kernel_rfl) (by kernel_rfl) (by exact fun _ _ _ h => h) (by rfl) ?_ hS ?_
              rotate_left
              · ((intro w hSw; obtain ⟨n1, n0, q0⟩ := HJ.out _ hSw; go_simp) <;> with_reducible rfl)
              (try simp only [Act.put, List.setIfInBounds_toArray, List.set_cons_zero, List.set_cons_succ])
              refine any_take (i := 19) (v := ?_) rfl (by kernel_rfl) (by kernel_rfl) (by kernel_rfl) (by exact fun _ _ _ h => h) (by rfl) ?_ hS ?_
              rotate_left
              · ((intro w hSw; obtain ⟨n1, n0, q0⟩ := HJ.out _ hSw; go_simp) <;> with_reducible rfl)
              (try simp only [Act.put, List.setIfInBounds_toArray, List.set_cons_zero, List.set_cons_succ])
              refine any_take (i := 20) (v := ?_) rfl (by kernel_rfl) (by kernel_rfl) (by kernel_rfl) (by exact fun _ _ _ h => h) (by rfl) ?_ hS ?_
              rotate_left
              · ((intro w hSw; obtain ⟨n1, n0, q0⟩ := HJ.out _ hSw; go_simp) <;> with_reducible rfl)
              (try simp only [Act.put, List.setIfInBounds_toArray, List.set_cons_zero, List.set_cons_succ])
              refine any_take (i := 21) (v := ?_) rfl (by kernel_rfl) (by kernel_rfl) (by kernel_rfl) (by exact fun _ _ _ h => h) (by rfl) ?_ hS ?_
              rotate_left
              · ((intro w hSw; obtain ⟨n1, n0, q0⟩ := HJ.out _ hSw; go_simp) <;> with_reducible rfl)
              (try simp only [Act.put, List.setIfInBounds_toArray, List.set_cons_zero, List.set_cons_succ])
              refine any_take (i := 22) (v := ?_) rfl (by kernel_rfl) (by kernel_rfl) (by kernel_rfl) (by exact fun _ _ _ h => h) (by rfl) ?_ hS ?_
              rotate_left
              · ((intro w hSw; obtain ⟨n1, n0, q0⟩ := HJ.out _ hSw; go_simp) <;> with_reducible rfl)
              (try simp only [Act.put, List.setIfInBounds_toArray, List.set_cons_zero, List.set_cons_succ])
              refine any_take (i := 23) (v := ?_) rfl (by kernel_rfl) (by kernel_rfl) (by kernel_rfl) (by exact fun _ _ _ h => h) (by rfl) ?_ hS ?_
              rotate_left
              · ((intro w hSw; obtain ⟨n1, n0, q0⟩ := HJ.out _ hSw; go_simp) <;> with_reducible rfl)
              (try simp only [Act.put, List.setIfInBounds_toArray, List.set_cons_zero, List.set_cons_succ])
              refine any_take (i := 24) (v := ?_) rfl (by kernel_rfl) (by kernel_rfl) (by kernel_rfl) (by exact fun _ _ _ h => h) (by rfl) ?_ hS ?_
              rotate_left
              · ((intro w hSw; obtain ⟨n1, n0, q0⟩ := HJ.out _ hSw; go_simp) <;> with_reducible rfl)
              (try simp only [Act.put, List.setIfInBounds_toArray, List.set_cons_zero, List.set_cons_succ])
              refine any_take (i := 25) (v := ?_) rfl (by kernel_rfl) (by kernel_rfl) (by kernel_rfl) (by exact fun _ _ _ h => h) (by rfl) ?_ hS ?_
              rotate_left
              · ((intro w hSw; obtain ⟨n1, n0, q0⟩ := HJ.out _ hSw; go_simp) <;> with_reducible rfl)
              (try simp only [Act.put, List.setIfInBounds_toArray, List.set_cons_zero, List.set_cons_succ])
              refine any_take (i := 26) (v := ?_) rfl (by kernel_rfl) (by kernel_rfl) (by kernel_rfl) (by exact fun _ _ _ h => h) (by rfl) ?_ hS ?_
              rotate_left
              · ((intro w hSw; obtain ⟨n1, n0, q0⟩ := HJ.out _ hSw; go_simp) <;> with_reducible rfl)
              (try simp only [Act.put, List.setIfInBounds_toArray, List.set_cons_zero, List.set_cons_succ])
              refine any_take (i := 27) (v := ?_) rfl (by kernel_rfl) (by kernel_rfl) (by kernel_rfl) (by exact fun _ _ _ h => h) (by rfl) ?_ hS ?_
              rotate_left
              · ((intro w hSw; obtain ⟨n1, n0, q0⟩ := HJ.out _ hSw; go_simp) <;> with_reducible rfl)
              (try simp only [Act.put, List.setIfInBounds_toArray, List.set_cons_zero, List.set_cons_succ])
              refine any_take (i := 28) (v := ?_) rfl (by kernel_rfl) (by kernel_rfl) (by kernel_rfl) (by exact fun _ _ _ h => h) (by rfl) ?_ hS ?_
              rotate_left
              · ((intro w hSw; obtain ⟨n1, n0, q0⟩ := HJ.out _ hSw; go_simp) <;> with_reducible rfl)
              (try simp only [Act.put, List.setIfInBounds_toArray, List.set_cons_zero, List.set_cons_succ])
              refine wpAnyH_done (by kernel_rfl) ?_ _
              clear hS
              go_wp2
              go_meet
              exact ⟨rfl, HZj.out.1.drew, below_then HZj.out.2 (Below.refl _ _).drew⟩
            case rest =>
            obtain ⟨rfl, Zk, bk⟩ := hcut
            have R : Hid _ := And.intro Zk bk
            clear Zk bk HJ HZj
            go_wp2
            go_roundw
            case rel => exact ⟨(p + 1) + 1, by go_num, by omega, R.out.1, R.out.2⟩
            case measure => simp [intOf]; omega
        · have q1 : ¬ (j : Int) < (L.length : Int) := by omega
          have R : Hid _ := And.intro (Zj.step (rvN_drop Zj.head)) bj
          clear Zj bj HZj
          go_wp2
          go_roundw
          case rel => exact ⟨k + 1, m', by go_num, by omega, R.out.1, R.out.2⟩
          case measure => simp [intOf]; omega
    · rw [decide_eq_false hlt]
      have HKn : Hid _ := known13_any wr
      have F1 : Hid _ := HK.out.2
      clear HK
      go_wp2_with fail
      refine (Calls.mono HKn.out) ?_
      rintro e w9 ⟨rfl, b9⟩
      have F : Hid _ := below_then F1.out b9
      clear HKn F1 b9
      go_wp2
      go_ret
      exact ⟨rfl, F.out⟩
end Go.Proofs.Ytlopkfenbeahgaa

