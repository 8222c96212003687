/- The walk of WindowHigh. -/
import Derived.Test.YtmbnhagfihphiaaWdK
import Derived.Test.YtmbnhagfihphiaaWdA
import Derived.Test.YtmbnhagfihphiaaSumC
import Derived.Deep.CutRange
import Derived.Deep.CutBlock
namespace Go.Proofs.Ytmbnhagfihphiaa
open Go.RowKit
set_option linter.unusedVariables false
set_option linter.unusedSimpArgs false
set_option maxRecDepth 8000

structure HiI (w : World) (g n : Nat) (wr : World) (k : Nat) (p : Wq) (m : Wn) : Prop where
  mine : Mine w wr (wd g p m)
  inv : m.Inv k
  sz : m.size = n
/-- what an act may do -/
structure HiR (m m' : Wn) (z0 : Int) (z2 : Bool) : Prop where
  high : m'.high = m.high ∨ m'.high = m.high + 1#32
  now : z2 = true → 0 ≤ z0 → z0 < 4 → m'.held = m.held ∧ m'.busy = m.busy ∧ m'.high = m.high
structure HiC (w : World) (g n rc k : Nat) (z0 : Int) (z2 : Bool) (m : Wn) (wx : World) : Prop where
  ex : ∃ p' m', HiI w g n wx (k + 1) p' m' ∧ HiR m m' z0 z2
  c0 : wx.cell? ⟨rc, 0, none⟩ = some (.int .i64 z0)
  c2 : wx.cell? ⟨rc, 2, none⟩ = some (.bool z2)
theorem inv_more {m : Wn} {k : Nat} (h : m.Inv k) : m.Inv (k + 1) := ⟨h.half, h.nx, h.now64, h.nows, by have := h.few; omega⟩
theorem hi_step {w wr wx : World} {g n k rc : Nat} {p p' : Wq} {m m' : Wn} {z0 z1 z3 : Int} {z2 : Bool} (h : HiI w g n wr k p m) (N : Blk wr rc 33 [.int .i64 z0, .int .u32 z1, .bool z2, .int .i64 z3]) (hrc : rc ∉ wdW g p) (s : Step wr wx (wd g p m) (wd g p' m')) (hi : m'.Inv (k + 1)) (hs : m'.size = m.size) (hr : HiR m m' z0 z2) : HiC w g n rc k z0 z2 m wx := by
  have N' := N.turned s.turned hrc
  exact ⟨⟨p', m', ⟨h.mine.step s, hi, hs.trans h.sz⟩, hr⟩, by rw [blk_at N']; rfl, by rw [blk_at N']; rfl⟩
theorem high_gap (a b : BitVec 32) (n : Nat) (h1 : 1 ≤ n) (h : b = a ∨ b = a + 1#32) : ¬ (n : Int) < ((b.toNat : Int) - (a.toNat : Int)) % 4294967296 := by
  have ha := a.isLt
  rcases h with rfl | rfl
  · omega
  · rw [BitVec.toNat_add]
    simp only [BitVec.toNat_ofNat]
    omega
theorem add_int (a b : BitVec 32) : ((a.toNat : Int) + (b.toNat : Int)) % 4294967296 = ((a + b).toNat : Int) := by
  rw [BitVec.toNat_add]; omega
set_option maxHeartbeats 8000000 in
theorem windowHigh_walk (first : BitVec 32) (size : Int) (a : Option Addr) (len cap : Nat) (w : World) (hs : I64 size) (A : Act19Arg w a len cap) :
    Calls Try.prog 5 #[.int .u32 (first.toNat : Int), .int .i64 size, .slice a len cap] w fun e w' => e = .returned (.bool true) ∧ Below w.heap.size w w' := by
  have HA : Hid _ := A
  have HK : Hid (∀ X, _) := known19_any
  have H0 : Hid _ := ct_any size 64 w hs (by omega) (by omega)
  clear A hs
  go_enter Try.func5, Try.ntmps5
  go_wp2_with fail
  refine (Calls.mono H0.out) ?_
  rintro e w1 ⟨j, rfl, hj, hw1⟩
  obtain rfl := hw1
  clear H0
  have hj0 : (1 : Int) + (j : Int) = ((1 + j : Nat) : Int) := by omega
  have hj1 : Hid _ := hj0
  clear hj0
  have q0 : -9223372036854775808 ≤ (1 : Int) + (j : Int) ∧ (1 : Int) + (j : Int) ≤ 9223372036854775807 := by omega
  go_wp2_with fail
  rw [hj1.out]
  have HN : Hid _ := wdNew_yes first (1 + j) w (by omega) (by omega)
  refine (Calls.mono HN.out) ?_
  rintro e w2 ⟨rfl, ok2, b2⟩
  have J2 : Hid _ := (⟨⟨ok2, wd_far (Nat.le_refl _), b2⟩, new_inv first (1 + j) (by omega) (by omega), rfl⟩ : HiI w w.heap.size (1 + j) w2 0 (none, none) (Wn.new first (1 + j)))
  have hn64 : 1 + j ≤ 64 := by omega
  have hn1 : 1 ≤ 1 + j := by omega
  clear ok2 b2 HN hj1 q0 hj
  generalize 1 + j = n at *
  generalize w.heap.size = g at J2 ⊢
  go_wp2_with fail
  go_loopw [9] (fun iv wr => ∃ (k : Nat) (p : Wq) (m : Wn), iv = .int .i64 k ∧ k ≤ 300 ∧ HiI w g n wr k p m) (fun iv _ => 300 - (intOf iv).toNat)
  case atStart => exact ⟨0, _, _, rfl, by omega, J2.out⟩
  case round =>
    clear J2
    obtain ⟨k, p, m, rfl, hk, hI0⟩ := hrel
    have HI : Hid _ := hI0
    clear hI0
    have hk8 : (k : Int) ≤ 300 := by omega
    go_upto_region 6 with fail
    go_cut [36] from 29 to 139 (fun cv wx => cv = .bool (decide (k < len ∧ k < 300)) ∧ wx = wr)
    case first =>
      by_cases t1 : (k : Int) < (len : Int)
      · by_cases t2 : (k : Int) < 300
        · go_wp2
          go_meet
          exact ⟨congrArg Value.bool (decide_eq_true (p := k < len ∧ k < 300) (by omega)).symm, rfl⟩
        · go_wp2
          go_meet
          exact ⟨congrArg Value.bool (decide_eq_false (p := k < len ∧ k < 300) (by omega)).symm, rfl⟩
      · go_wp2
        go_meet
        exact ⟨congrArg Value.bool (decide_eq_false (p := k < len ∧ k < 300) (by omega)).symm, rfl⟩
    case rest =>
    obtain ⟨rfl, hwc⟩ := hcut
    obtain rfl := hwc.symm
    clear hwc
    by_cases hlt : k < len ∧ k < 300
    · rw [decide_eq_true hlt]
      obtain ⟨ab, ao, rfl, hcells⟩ := HA.out.each (by omega)
      obtain ⟨z0, z1, z2, z3, x0, x1, x2, x3, i0, i3⟩ := hcells k hlt.1
      have y0 := cell_later HI.out.mine.below x0
      have y1 := cell_later HI.out.mine.below x1
      have y2 := cell_later HI.out.mine.below x2
      have y3 := cell_later HI.out.mine.below x3
      have hq : (k : Int) < (len : Int) := by omega
      have bn : Below wr.heap.size wr (wr.alloc (.cells #[.int .i64 z0, .int .u32 (z1.toNat : Int), .bool z2, .int .i64 z3] 33)) := (Below.refl _ _).alloc (Nat.le_refl _) _
      have N := Blk.new' wr 33 [.int .i64 z0, .int .u32 (z1.toNat : Int), .bool z2, .int .i64 z3]
      have hrc : wr.heap.size ∉ wdW g p := fun e => by have := HI.out.mine.ok.lt _ (.inl e); omega
      have J3 : HiI w g n _ k p m := ⟨HI.out.mine.later bn, HI.out.inv, HI.out.sz⟩
      have wf3 := HI.out.inv.wf (by omega)
      have HG : Hid _ := wdHighB g p m _ J3.mine.ok wf3
      have HJ : Hid _ := And.intro J3 (And.intro N (And.intro hrc wf3))
      clear hcells x0 x1 x2 x3 bn N hrc J3 HI
      go_wp2_with fail
      refine (Calls.mono HG.out) ?_
      rintro e w4 ⟨rfl, b4⟩
      have J4 : HiI w g n _ k p m := ⟨HJ.out.1.mine.later b4, HJ.out.1.inv, HJ.out.1.sz⟩
      have N4 := HJ.out.2.1.laterB b4
      have HL : Hid _ := wdHeld_any g p m w4 J4.mine.ok
      have HB : Hid _ := wdBusy_any g p m w4 J4.mine.ok
      have HE : Hid _ := wdExp_any g p m w4 J4.mine.ok
      have c0 := blk_at N4 0
      have c1 := blk_at N4 1
      have c2 := blk_at N4 2
      have c3 := blk_at N4 3
      simp only [List.getElem?_cons_zero, List.getElem?_cons_succ] at c0 c1 c2 c3
      have HH : Hid _ := And.intro J4 (And.intro N4 (And.intro HJ.out.2.2.1 HJ.out.2.2.2))
      clear b4 J4 N4 HG HJ y0 y1 y2 y3
      generalize wr.heap.size = rc at *
      go_wp2_with fail
      refine (Calls.mono HL.out) ?_
      rintro e w' ⟨rfl, hw'⟩
      obtain rfl := hw'.symm
      clear hw'
      go_wp2_with fail
      refine (Calls.mono HB.out) ?_
      rintro e w' ⟨rfl, hw'⟩
      obtain rfl := hw'.symm
      clear hw'
      clear HL HB
      go_upto_block 2 with fail
      go_cut [59] from 51 to 139 (fun _ wx => HiC w g n rc k z0 z2 m wx)
      case first =>
        have HCm : Hid (∀ nn : BitVec 32, _) := fun nn => wdCome_any g p m nn z2 z3 _ HH.out.1.mine.ok HH.out.2.2.2
        have hcome : ∀ (nn : BitVec 32) (p' : Wq) (wx : World), Step w4 wx (wd g p m) (wd g p' (m.come nn z3 z2)) → HiC w g n rc k z0 z2 m wx := by
          intro nn p' wx s
          obtain ⟨v1, v2, v3, v4⟩ := come_inv HH.out.1.inv nn z3 z2
          exact hi_step HH.out.1 HH.out.2.1 HH.out.2.2.1 s v1 v3 ⟨.inl v2, fun e _ _ => ⟨(v4 e).1, (v4 e).2, v2⟩⟩
        have HS : Hid _ := hcome
        clear hcome
        by_cases hk0 : z0 = 0 ∨ z0 = 1 ∨ z0 = 2 ∨ z0 = 3
        · rcases hk0 with rfl | rfl | rfl | rfl
          · go_wp2_with fail
            refine wp_region_held_drew (S := fun W => W.cell? ⟨rc, 1, none⟩ = some (.int .u32 (z1.toNat : Int)) ∧ W.cell? ⟨rc, 2, none⟩ = some (.bool z2) ∧ W.cell? ⟨rc, 3, none⟩ = some (.int .i64 z3)) (by kernel_rfl) (⟨c1, c2, c3⟩) (fun hS => ?_)
            refine any_take (i := 0) (v := ?_) rfl (by kernel_rfl) (by kernel_rfl) (by kernel_rfl) (by exact fun _ _ _ h => h) (by rfl) ?_ hS ?_
            rotate_left
            · ((intro W hSw; obtain ⟨r1, r2, r3⟩ := hSw; go_simp) <;> with_reducible rfl)
            (try simp only [Act.put, List.setIfInBounds_toArray, List.set_cons_zero, List.set_cons_succ])
            refine any_take (i := 1) (v := ?_) rfl (by kernel_rfl) (by kernel_rfl) (by kernel_rfl) (by exact fun _ _ _ h => h) (by rfl) ?_ hS ?_
            rotate_left
            · ((intro W hSw; obtain ⟨r1, r2, r3⟩ := hSw; go_simp) <;> with_reducible rfl)
            (try simp only [Act.put, List.setIfInBounds_toArray, List.set_cons_zero, List.set_cons_succ])
            refine any_take (i := 3) (v := ?_) rfl (by kernel_rfl) (by kernel_rfl) (by kernel_rfl) (by exact fun _ _ _ h => h) (by rfl) ?_ hS ?_
            rotate_left
            · ((intro W hSw; obtain ⟨r1, r2, r3⟩ := hSw; go_simp) <;> with_reducible rfl)
            (try simp only [Act.put, List.setIfInBounds_toArray, List.set_cons_zero, List.set_cons_succ])
            refine any_take (i := 4) (v := ?_) rfl (by kernel_rfl) (by kernel_rfl) (by kernel_rfl) (by exact fun _ _ _ h => h) (by rfl) ?_ hS ?_
            rotate_left
            · ((intro W hSw; obtain ⟨r1, r2, r3⟩ := hSw; go_simp) <;> with_reducible rfl)
            (try simp only [Act.put, List.setIfInBounds_toArray, List.set_cons_zero, List.set_cons_succ])
            refine any_take (i := 6) (v := ?_) rfl (by kernel_rfl) (by kernel_rfl) (by kernel_rfl) (by exact fun _ _ _ h => h) (by rfl) ?_ hS ?_
            rotate_left
            · ((intro W hSw; obtain ⟨r1, r2, r3⟩ := hSw; go_simp) <;> with_reducible rfl)
            (try simp only [Act.put, List.setIfInBounds_toArray, List.set_cons_zero, List.set_cons_succ])
            refine any_take (i := 7) (v := ?_) rfl (by kernel_rfl) (by kernel_rfl) (by kernel_rfl) (by exact fun _ _ _ h => h) (by rfl) ?_ hS ?_
            rotate_left
            · ((intro W hSw; obtain ⟨r1, r2, r3⟩ := hSw; go_simp) <;> with_reducible rfl)
            (try simp only [Act.put, List.setIfInBounds_toArray, List.set_cons_zero, List.set_cons_succ])
            refine any_take (i := 8) (v := ?_) rfl (by kernel_rfl) (by kernel_rfl) (by kernel_rfl) (by exact fun _ _ _ h => h) (by rfl) ?_ hS ?_
            rotate_left
            · ((intro W hSw; obtain ⟨r1, r2, r3⟩ := hSw; go_simp) <;> with_reducible rfl)
            (try simp only [Act.put, List.setIfInBounds_toArray, List.set_cons_zero, List.set_cons_succ])
            refine any_take (i := 9) (v := ?_) rfl (by kernel_rfl) (by kernel_rfl) (by kernel_rfl) (by exact fun _ _ _ h => h) (by rfl) ?_ hS ?_
            rotate_left
            · ((intro W hSw; obtain ⟨r1, r2, r3⟩ := hSw; go_simp) <;> with_reducible rfl)
            (try simp only [Act.put, List.setIfInBounds_toArray, List.set_cons_zero, List.set_cons_succ])
            refine any_one (i := 2) rfl (by kernel_rfl) (fun K hK => ?_)
            go_simp
            refine (Calls.mono (wdExp_any g p m _ (HH.out.1.mine.ok.later (Below.refl _ _).drew))) ?_
            rintro e _ ⟨rfl, rfl⟩
            go_wp2_with fail
            refine hK.out _ _ (hS) ?_
            clear hK K
            refine any_take (i := 5) (v := .int .u32 (((m.exp + z1).toNat : Nat) : Int)) rfl (by kernel_rfl) (by kernel_rfl) (by kernel_rfl) (by exact fun _ _ _ h => h) (by rfl) ?_ hS ?_
            · intro W hSw; clear hSw; go_simp; first | rfl | exact add_int _ _ | (rw [← add_int]; rfl)
            (try simp only [Act.put, List.setIfInBounds_toArray, List.set_cons_zero, List.set_cons_succ])
            refine any_one (i := 10) rfl (by kernel_rfl) (fun K hK => ?_)
            go_simp
            refine (Calls.mono (wdCome_any g p m (m.exp + z1) z2 z3 _ (HH.out.1.mine.ok.later (Below.refl _ _).drew) HH.out.2.2.2)) ?_
            rintro e x2 ⟨rfl, p5, s5⟩
            have F : Hid _ := HS.out _ _ _ ((Step.quiet HH.out.1.mine.ok (Below.refl _ _).drew).trans s5)
            have N5 := HH.out.2.1.turned ((Step.quiet HH.out.1.mine.ok (Below.refl _ _).drew).trans s5).turned HH.out.2.2.1
            have t1 := blk_at N5 1
            have t2 := blk_at N5 2
            have t3 := blk_at N5 3
            simp only [List.getElem?_cons_zero, List.getElem?_cons_succ] at t1 t2 t3
            clear N5 s5
            go_wp2_with fail
            refine hK.out _ _ ((⟨t1, t2, t3⟩ : _ ∧ _ ∧ _)) ?_
            clear hK K hS
            have hS := (⟨t1, t2, t3⟩ : _ ∧ _ ∧ _)
            refine wpAnyH_done (by kernel_rfl) ?_ _
            clear HH HS HCm hS t1 t2 t3
            go_wp2
            go_meet
            case rel => exact F.out
          · go_wp2_with fail
            refine wp_region_held_drew (S := fun W => W.cell? ⟨rc, 1, none⟩ = some (.int .u32 (z1.toNat : Int)) ∧ W.cell? ⟨rc, 2, none⟩ = some (.bool z2) ∧ W.cell? ⟨rc, 3, none⟩ = some (.int .i64 z3)) (by kernel_rfl) (⟨c1, c2, c3⟩) (fun hS => ?_)
            refine any_take (i := 0) (v := ?_) rfl (by kernel_rfl) (by kernel_rfl) (by kernel_rfl) (by exact fun _ _ _ h => h) (by rfl) ?_ hS ?_
            rotate_left
            · ((intro W hSw; obtain ⟨r1, r2, r3⟩ := hSw; go_simp) <;> with_reducible rfl)
            (try simp only [Act.put, List.setIfInBounds_toArray, List.set_cons_zero, List.set_cons_succ])
            refine any_take (i := 1) (v := ?_) rfl (by kernel_rfl) (by kernel_rfl) (by kernel_rfl) (by exact fun _ _ _ h => h) (by rfl) ?_ hS ?_
            rotate_left
            · ((intro W hSw; obtain ⟨r1, r2, r3⟩ := hSw; go_simp) <;> with_reducible rfl)
            (try simp only [Act.put, List.setIfInBounds_toArray, List.set_cons_zero, List.set_cons_succ])
            refine any_take (i := 3) (v := ?_) rfl (by kernel_rfl) (by kernel_rfl) (by kernel_rfl) (by exact fun _ _ _ h => h) (by rfl) ?_ hS ?_
            rotate_left
            · ((intro W hSw; obtain ⟨r1, r2, r3⟩ := hSw; go_simp) <;> with_reducible rfl)
            (try simp only [Act.put, List.setIfInBounds_toArray, List.set_cons_zero, List.set_cons_succ])
            refine any_take (i := 4) (v := ?_) rfl (by kernel_rfl) (by kernel_rfl) (by kernel_rfl) (by exact fun _ _ _ h => h) (by rfl) ?_ hS ?_
            rotate_left
            · ((intro W hSw; obtain ⟨r1, r2, r3⟩ := hSw; go_simp) <;> with_reducible rfl)
            (try simp only [Act.put, List.setIfInBounds_toArray, List.set_cons_zero, List.set_cons_succ])
            refine any_take (i := 6) (v := ?_) rfl (by kernel_rfl) (by kernel_rfl) (by kernel_rfl) (by exact fun _ _ _ h => h) (by rfl) ?_ hS ?_
            rotate_left
            · ((intro W hSw; obtain ⟨r1, r2, r3⟩ := hSw; go_simp) <;> with_reducible rfl)
            (try simp only [Act.put, List.setIfInBounds_toArray, List.set_cons_zero, List.set_cons_succ])
            refine any_take (i := 7) (v := ?_) rfl (by kernel_rfl) (by kernel_rfl) (by kernel_rfl) (by exact fun _ _ _ h => h) (by rfl) ?_ hS ?_
            rotate_left
            · ((intro W hSw; obtain ⟨r1, r2, r3⟩ := hSw; go_simp) <;> with_reducible rfl)
            (try simp only [Act.put, List.setIfInBounds_toArray, List.set_cons_zero, List.set_cons_succ])
            refine any_take (i := 8) (v := ?_) rfl (by kernel_rfl) (by kernel_rfl) (by kernel_rfl) (by exact fun _ _ _ h => h) (by rfl) ?_ hS ?_
            rotate_left
            · ((intro W hSw; obtain ⟨r1, r2, r3⟩ := hSw; go_simp) <;> with_reducible rfl)
            (try simp only [Act.put, List.setIfInBounds_toArray, List.set_cons_zero, List.set_cons_succ])
            refine any_take (i := 9) (v := ?_) rfl (by kernel_rfl) (by kernel_rfl) (by kernel_rfl) (by exact fun _ _ _ h => h) (by rfl) ?_ hS ?_
            rotate_left
            · ((intro W hSw; obtain ⟨r1, r2, r3⟩ := hSw; go_simp) <;> with_reducible rfl)
            (try simp only [Act.put, List.setIfInBounds_toArray, List.set_cons_zero, List.set_cons_succ])
            refine any_one (i := 2) rfl (by kernel_rfl) (fun K hK => ?_)
            go_simp
            refine (Calls.mono (wdExp_any g p m _ (HH.out.1.mine.ok.later (Below.refl _ _).drew))) ?_
            rintro e _ ⟨rfl, rfl⟩
            go_wp2_with fail
            refine hK.out _ _ (hS) ?_
            clear hK K
            refine any_take (i := 5) (v := .int .u32 (((m.exp + z1).toNat : Nat) : Int)) rfl (by kernel_rfl) (by kernel_rfl) (by kernel_rfl) (by exact fun _ _ _ h => h) (by rfl) ?_ hS ?_
            · intro W hSw; clear hSw; go_simp; first | rfl | exact add_int _ _ | (rw [← add_int]; rfl)
            (try simp only [Act.put, List.setIfInBounds_toArray, List.set_cons_zero, List.set_cons_succ])
            refine any_one (i := 10) rfl (by kernel_rfl) (fun K hK => ?_)
            go_simp
            refine (Calls.mono (wdCome_any g p m (m.exp + z1) z2 z3 _ (HH.out.1.mine.ok.later (Below.refl _ _).drew) HH.out.2.2.2)) ?_
            rintro e x2 ⟨rfl, p5, s5⟩
            have F : Hid _ := HS.out _ _ _ ((Step.quiet HH.out.1.mine.ok (Below.refl _ _).drew).trans s5)
            have N5 := HH.out.2.1.turned ((Step.quiet HH.out.1.mine.ok (Below.refl _ _).drew).trans s5).turned HH.out.2.2.1
            have t1 := blk_at N5 1
            have t2 := blk_at N5 2
            have t3 := blk_at N5 3
            simp only [List.getElem?_cons_zero, List.getElem?_cons_succ] at t1 t2 t3
            clear N5 s5
            go_wp2_with fail
            refine hK.out _ _ ((⟨t1, t2, t3⟩ : _ ∧ _ ∧ _)) ?_
            clear hK K hS
            have hS := (⟨t1, t2, t3⟩ : _ ∧ _ ∧ _)
            refine wpAnyH_done (by kernel_rfl) ?_ _
            clear HH HS HCm hS t1 t2 t3
            go_wp2
            go_meet
            case rel => exact F.out
          · go_wp2_with fail
            refine wp_region_held_drew (S := fun W => W.cell? ⟨rc, 1, none⟩ = some (.int .u32 (z1.toNat : Int)) ∧ W.cell? ⟨rc, 2, none⟩ = some (.bool z2) ∧ W.cell? ⟨rc, 3, none⟩ = some (.int .i64 z3)) (by kernel_rfl) (⟨c1, c2, c3⟩) (fun hS => ?_)
            refine any_take (i := 0) (v := ?_) rfl (by kernel_rfl) (by kernel_rfl) (by kernel_rfl) (by exact fun _ _ _ h => h) (by rfl) ?_ hS ?_
            rotate_left
            · ((intro W hSw; obtain ⟨r1, r2, r3⟩ := hSw; go_simp) <;> with_reducible rfl)
            (try simp only [Act.put, List.setIfInBounds_toArray, List.set_cons_zero, List.set_cons_succ])
            refine any_take (i := 1) (v := ?_) rfl (by kernel_rfl) (by kernel_rfl) (by kernel_rfl) (by exact fun _ _ _ h => h) (by rfl) ?_ hS ?_
            rotate_left
            · ((intro W hSw; obtain ⟨r1, r2, r3⟩ := hSw; go_simp) <;> with_reducible rfl)
            (try simp only [Act.put, List.setIfInBounds_toArray, List.set_cons_zero, List.set_cons_succ])
            refine any_take (i := 3) (v := ?_) rfl (by kernel_rfl) (by kernel_rfl) (by kernel_rfl) (by exact fun _ _ _ h => h) (by rfl) ?_ hS ?_
            rotate_left
            · ((intro W hSw; obtain ⟨r1, r2, r3⟩ := hSw; go_simp) <;> with_reducible rfl)
            (try simp only [Act.put, List.setIfInBounds_toArray, List.set_cons_zero, List.set_cons_succ])
            refine any_take (i := 4) (v := ?_) rfl (by kernel_rfl) (by kernel_rfl) (by kernel_rfl) (by exact fun _ _ _ h => h) (by rfl) ?_ hS ?_
            rotate_left
            · ((intro W hSw; obtain ⟨r1, r2, r3⟩ := hSw; go_simp) <;> with_reducible rfl)
            (try simp only [Act.put, List.setIfInBounds_toArray, List.set_cons_zero, List.set_cons_succ])
            refine any_take (i := 6) (v := ?_) rfl (by kernel_rfl) (by kernel_rfl) (by kernel_rfl) (by exact fun _ _ _ h => h) (by rfl) ?_ hS ?_
            rotate_left
            · ((intro W hSw; obtain ⟨r1, r2, r3⟩ := hSw; go_simp) <;> with_reducible rfl)
            (try simp only [Act.put, List.setIfInBounds_toArray, List.set_cons_zero, List.set_cons_succ])
            refine any_take (i := 7) (v := ?_) rfl (by kernel_rfl) (by kernel_rfl) (by kernel_rfl) (by exact fun _ _ _ h => h) (by rfl) ?_ hS ?_
            rotate_left
            · ((intro W hSw; obtain ⟨r1, r2, r3⟩ := hSw; go_simp) <;> with_reducible rfl)
            (try simp only [Act.put, List.setIfInBounds_toArray, List.set_cons_zero, List.set_cons_succ])
            refine any_take (i := 8) (v := ?_) rfl (by kernel_rfl) (by kernel_rfl) (by kernel_rfl) (by exact fun _ _ _ h => h) (by rfl) ?_ hS ?_
            rotate_left
            · ((intro W hSw; obtain ⟨r1, r2, r3⟩ := hSw; go_simp) <;> with_reducible rfl)
            (try simp only [Act.put, List.setIfInBounds_toArray, List.set_cons_zero, List.set_cons_succ])
            refine any_take (i := 9) (v := ?_) rfl (by kernel_rfl) (by kernel_rfl) (by kernel_rfl) (by exact fun _ _ _ h => h) (by rfl) ?_ hS ?_
            rotate_left
            · ((intro W hSw; obtain ⟨r1, r2, r3⟩ := hSw; go_simp) <;> with_reducible rfl)
            (try simp only [Act.put, List.setIfInBounds_toArray, List.set_cons_zero, List.set_cons_succ])
            refine any_one (i := 2) rfl (by kernel_rfl) (fun K hK => ?_)
            go_simp
            refine (Calls.mono (wdExp_any g p m _ (HH.out.1.mine.ok.later (Below.refl _ _).drew))) ?_
            rintro e _ ⟨rfl, rfl⟩
            go_wp2_with fail
            refine hK.out _ _ (hS) ?_
            clear hK K
            refine any_take (i := 5) (v := .int .u32 (((m.exp + z1).toNat : Nat) : Int)) rfl (by kernel_rfl) (by kernel_rfl) (by kernel_rfl) (by exact fun _ _ _ h => h) (by rfl) ?_ hS ?_
            · intro W hSw; clear hSw; go_simp; first | rfl | exact add_int _ _ | (rw [← add_int]; rfl)
            (try simp only [Act.put, List.setIfInBounds_toArray, List.set_cons_zero, List.set_cons_succ])
            refine any_one (i := 10) rfl (by kernel_rfl) (fun K hK => ?_)
            go_simp
            refine (Calls.mono (wdCome_any g p m (m.exp + z1) z2 z3 _ (HH.out.1.mine.ok.later (Below.refl _ _).drew) HH.out.2.2.2)) ?_
            rintro e x2 ⟨rfl, p5, s5⟩
            have F : Hid _ := HS.out _ _ _ ((Step.quiet HH.out.1.mine.ok (Below.refl _ _).drew).trans s5)
            have N5 := HH.out.2.1.turned ((Step.quiet HH.out.1.mine.ok (Below.refl _ _).drew).trans s5).turned HH.out.2.2.1
            have t1 := blk_at N5 1
            have t2 := blk_at N5 2
            have t3 := blk_at N5 3
            simp only [List.getElem?_cons_zero, List.getElem?_cons_succ] at t1 t2 t3
            clear N5 s5
            go_wp2_with fail
            refine hK.out _ _ ((⟨t1, t2, t3⟩ : _ ∧ _ ∧ _)) ?_
            clear hK K hS
            have hS := (⟨t1, t2, t3⟩ : _ ∧ _ ∧ _)
            refine wpAnyH_done (by kernel_rfl) ?_ _
            clear HH HS HCm hS t1 t2 t3
            go_wp2
            go_meet
            case rel => exact F.out
          · go_wp2_with fail
            refine wp_region_held_drew (S := fun W => W.cell? ⟨rc, 1, none⟩ = some (.int .u32 (z1.toNat : Int)) ∧ W.cell? ⟨rc, 2, none⟩ = some (.bool z2) ∧ W.cell? ⟨rc, 3, none⟩ = some (.int .i64 z3)) (by kernel_rfl) (⟨c1, c2, c3⟩) (fun hS => ?_)
            refine any_take (i := 0) (v := ?_) rfl (by kernel_rfl) (by kernel_rfl) (by kernel_rfl) (by exact fun _ _ _ h => h) (by rfl) ?_ hS ?_
            rotate_left
            · ((intro W hSw; obtain ⟨r1, r2, r3⟩ := hSw; go_simp) <;> with_reducible rfl)
            (try simp only [Act.put, List.setIfInBounds_toArray, List.set_cons_zero, List.set_cons_succ])
            refine any_take (i := 1) (v := ?_) rfl (by kernel_rfl) (by kernel_rfl) (by kernel_rfl) (by exact fun _ _ _ h => h) (by rfl) ?_ hS ?_
            rotate_left
            · ((intro W hSw; obtain ⟨r1, r2, r3⟩ := hSw; go_simp) <;> with_reducible rfl)
            (try simp only [Act.put, List.setIfInBounds_toArray, List.set_cons_zero, List.set_cons_succ])
            refine any_take (i := 3) (v := ?_) rfl (by kernel_rfl) (by kernel_rfl) (by kernel_rfl) (by exact fun _ _ _ h => h) (by rfl) ?_ hS ?_
            rotate_left
            · ((intro W hSw; obtain ⟨r1, r2, r3⟩ := hSw; go_simp) <;> with_reducible rfl)
            (try simp only [Act.put, List.setIfInBounds_toArray, List.set_cons_zero, List.set_cons_succ])
            refine any_take (i := 4) (v := ?_) rfl (by kernel_rfl) (by kernel_rfl) (by kernel_rfl) (by exact fun _ _ _ h => h) (by rfl) ?_ hS ?_
            rotate_left
            · ((intro W hSw; obtain ⟨r1, r2, r3⟩ := hSw; go_simp) <;> with_reducible rfl)
            (try simp only [Act.put, List.setIfInBounds_toArray, List.set_cons_zero, List.set_cons_succ])
            refine any_take (i := 6) (v := ?_) rfl (by kernel_rfl) (by kernel_rfl) (by kernel_rfl) (by exact fun _ _ _ h => h) (by rfl) ?_ hS ?_
            rotate_left
            · ((intro W hSw; obtain ⟨r1, r2, r3⟩ := hSw; go_simp) <;> with_reducible rfl)
            (try simp only [Act.put, List.setIfInBounds_toArray, List.set_cons_zero, List.set_cons_succ])
            refine any_take (i := 7) (v := ?_) rfl (by kernel_rfl) (by kernel_rfl) (by kernel_rfl) (by exact fun _ _ _ h => h) (by rfl) ?_ hS ?_
            rotate_left
            · ((intro W hSw; obtain ⟨r1, r2, r3⟩ := hSw; go_simp) <;> with_reducible rfl)
            (try simp only [Act.put, List.setIfInBounds_toArray, List.set_cons_zero, List.set_cons_succ])
            refine any_take (i := 8) (v := ?_) rfl (by kernel_rfl) (by kernel_rfl) (by kernel_rfl) (by exact fun _ _ _ h => h) (by rfl) ?_ hS ?_
            rotate_left
            · ((intro W hSw; obtain ⟨r1, r2, r3⟩ := hSw; go_simp) <;> with_reducible rfl)
            (try simp only [Act.put, List.setIfInBounds_toArray, List.set_cons_zero, List.set_cons_succ])
            refine any_take (i := 9) (v := ?_) rfl (by kernel_rfl) (by kernel_rfl) (by kernel_rfl) (by exact fun _ _ _ h => h) (by rfl) ?_ hS ?_
            rotate_left
            · ((intro W hSw; obtain ⟨r1, r2, r3⟩ := hSw; go_simp) <;> with_reducible rfl)
            (try simp only [Act.put, List.setIfInBounds_toArray, List.set_cons_zero, List.set_cons_succ])
            refine any_one (i := 2) rfl (by kernel_rfl) (fun K hK => ?_)
            go_simp
            refine (Calls.mono (wdExp_any g p m _ (HH.out.1.mine.ok.later (Below.refl _ _).drew))) ?_
            rintro e _ ⟨rfl, rfl⟩
            go_wp2_with fail
            refine hK.out _ _ (hS) ?_
            clear hK K
            refine any_take (i := 5) (v := .int .u32 (((m.exp + z1).toNat : Nat) : Int)) rfl (by kernel_rfl) (by kernel_rfl) (by kernel_rfl) (by exact fun _ _ _ h => h) (by rfl) ?_ hS ?_
            · intro W hSw; clear hSw; go_simp; first | rfl | exact add_int _ _ | (rw [← add_int]; rfl)
            (try simp only [Act.put, List.setIfInBounds_toArray, List.set_cons_zero, List.set_cons_succ])
            refine any_one (i := 10) rfl (by kernel_rfl) (fun K hK => ?_)
            go_simp
            refine (Calls.mono (wdCome_any g p m (m.exp + z1) z2 z3 _ (HH.out.1.mine.ok.later (Below.refl _ _).drew) HH.out.2.2.2)) ?_
            rintro e x2 ⟨rfl, p5, s5⟩
            have F : Hid _ := HS.out _ _ _ ((Step.quiet HH.out.1.mine.ok (Below.refl _ _).drew).trans s5)
            have N5 := HH.out.2.1.turned ((Step.quiet HH.out.1.mine.ok (Below.refl _ _).drew).trans s5).turned HH.out.2.2.1
            have t1 := blk_at N5 1
            have t2 := blk_at N5 2
            have t3 := blk_at N5 3
            simp only [List.getElem?_cons_zero, List.getElem?_cons_succ] at t1 t2 t3
            clear N5 s5
            go_wp2_with fail
            refine hK.out _ _ ((⟨t1, t2, t3⟩ : _ ∧ _ ∧ _)) ?_
            clear hK K hS
            have hS := (⟨t1, t2, t3⟩ : _ ∧ _ ∧ _)
            refine wpAnyH_done (by kernel_rfl) ?_ _
            clear HH HS HCm hS t1 t2 t3
            go_wp2
            go_meet
            case rel => exact F.out
        · by_cases hk4 : z0 = 4 ∨ z0 = 5
          · have HNx : Hid _ := wdNext_any g p m _ HH.out.1.mine.ok HH.out.2.2.2
            rcases hk4 with rfl | rfl
            · clear hk0
              go_wp2_with fail
              refine (Calls.mono HNx.out) ?_
              rintro e w5 ⟨rfl, s5⟩
              obtain ⟨v1, v2, v3⟩ := next_inv HH.out.1.inv
              have F : Hid _ := hi_step (z0 := 4) (z2 := z2) HH.out.1 HH.out.2.1 HH.out.2.2.1 s5 (inv_more v1) v3 ⟨.inl v2, fun _ _ h => by omega⟩
              clear s5 v1 v2 v3 HNx HH HS HCm
              go_wp2
              go_meet
              case rel => exact F.out
            · clear hk0
              go_wp2_with fail
              refine (Calls.mono HNx.out) ?_
              rintro e w5 ⟨rfl, s5⟩
              obtain ⟨v1, v2, v3⟩ := next_inv HH.out.1.inv
              have F : Hid _ := hi_step (z0 := 5) (z2 := z2) HH.out.1 HH.out.2.1 HH.out.2.2.1 s5 (inv_more v1) v3 ⟨.inl v2, fun _ _ h => by omega⟩
              clear s5 v1 v2 v3 HNx HH HS HCm
              go_wp2
              go_meet
              case rel => exact F.out
          · by_cases hk6 : z0 = 6
            · subst hk6
              have HD : Hid _ := wdDone_any g p m _ HH.out.1.mine.ok HH.out.2.2.2
              clear hk0 hk4
              go_wp2_with fail
              refine (Calls.mono HD.out) ?_
              rintro e w5 ⟨rfl, s5⟩
              obtain ⟨v1, v2, v3⟩ := done_inv HH.out.1.inv
              have F : Hid _ := hi_step (z0 := 6) (z2 := z2) HH.out.1 HH.out.2.1 HH.out.2.2.1 s5 (inv_more v1) v3 ⟨v2, fun _ _ h => by omega⟩
              clear s5 v1 v2 v3 HD HH HS HCm
              go_wp2
              go_meet
              case rel => exact F.out
            · have e0 : ¬ z0 = 0 ∧ ¬ z0 = 1 ∧ ¬ z0 = 2 ∧ ¬ z0 = 3 ∧ ¬ z0 = 4 ∧ ¬ z0 = 5 := by omega
              obtain ⟨e0, e1, e2, e3, e4, e5⟩ := e0
              clear hk0 hk4
              go_wp2_with fail
              refine (Calls.mono (HCm.out z1)) ?_
              rintro e w5 ⟨rfl, p5, s5⟩
              have F : Hid _ := HS.out _ _ _ s5
              clear s5 HH HS HCm
              go_wp2
              go_meet
              case rel => exact F.out
      case rest =>
        obtain ⟨⟨p5, m5, I5, R5⟩, c0', c2'⟩ := hcut
        have wf5 := I5.inv.wf (by omega)
        have few5 := half_few I5.inv.half
        rw [I5.sz] at few5
        have d1 := high_gap _ _ n hn1 R5.high
        have d2 : ¬ (n : Int) < (m5.held.length : Int) + (m5.busy : Int) := by omega
        have d3 : ¬ (m5.held.length : Int) < 0 := by omega
        have d4 : ¬ (m5.busy : Int) < 0 := by omega
        have d5 : -9223372036854775808 ≤ (m5.held.length : Int) + (m5.busy : Int) ∧ (m5.held.length : Int) + (m5.busy : Int) ≤ 9223372036854775807 := by omega
        have d6 : (n : Int) % 4294967296 = (n : Int) := by omega
        have HG5 : Hid _ := wdHighB g p5 m5 _ I5.mine.ok wf5
        have H5 : Hid _ := And.intro I5 (And.intro wf5 R5.now)
        clear HH HE c0 c1 c2 c3 I5 R5 wf5 few5 hk8
        go_wp2_with fail
        refine (Calls.mono HG5.out) ?_
        rintro e w6 ⟨rfl, b6⟩
        have I6 : HiI w g n w6 (k + 1) p5 m5 := ⟨H5.out.1.mine.later b6, H5.out.1.inv, H5.out.1.sz⟩
        have t0 := cell_later b6 c0'
        have t2 := cell_later b6 c2'
        have HL6 : Hid _ := wdHeld_any g p5 m5 w6 I6.mine.ok
        have HB6 : Hid _ := wdBusy_any g p5 m5 w6 I6.mine.ok
        have HG6 : Hid _ := wdHighB g p5 m5 w6 I6.mine.ok H5.out.2.1
        have F6 : Hid _ := And.intro I6 H5.out.2.2
        clear b6 I6 c0' c2' HG5 H5
        generalize hH5 : (m5.high.toNat : Int) = hz5 at *
        generalize hB5 : (m5.busy : Int) = bz5 at *
        generalize hL5 : (m5.held.length : Int) = lz5 at *
        have HE5 : Hid _ := And.intro hH5 (And.intro hB5 hL5)
        clear hH5 hB5 hL5
        cases z2
        · go_wp2_with (first | (go_at_call 19; refine (Calls.mono HL6.out) ?_; rintro e w' ⟨rfl, hw'⟩; obtain rfl := hw'.symm; clear hw') | (go_at_call 20; refine (Calls.mono HB6.out) ?_; rintro e w' ⟨rfl, hw'⟩; obtain rfl := hw'.symm; clear hw'))
          go_wp2
          go_roundw
          case rel => exact ⟨k + 1, _, _, by go_num, by omega, F6.out.1⟩
          case measure => simp [intOf]; omega
        · by_cases r1 : z0 < 4
          · by_cases r2 : 0 ≤ z0
            · obtain ⟨u1, u2, u3⟩ := F6.out.2 rfl r2 r1
              have v1 : lz5 = (m.held.length : Int) := by rw [← HE5.out.2.2, u1]
              have v2 : bz5 = (m.busy : Int) := by rw [← HE5.out.2.1, u2]
              have v3 : hz5 = (m.high.toNat : Int) := by rw [← HE5.out.1, u3]
              subst v1
              subst v2
              subst v3
              have HX : Hid _ := And.intro (show ((m5.held.length : Nat) : Int) = (m.held.length : Int) by rw [u1]) (show ((m5.busy : Nat) : Int) = (m.busy : Int) by rw [u2])
              clear HE5 u1 u2 u3
              go_wp2_with (first | (go_at_call 19; refine (Calls.mono HL6.out) ?_; rintro e w' ⟨rfl, hw'⟩; obtain rfl := hw'.symm; clear hw') | (go_at_call 20; refine (Calls.mono HB6.out) ?_; rintro e w' ⟨rfl, hw'⟩; obtain rfl := hw'.symm; clear hw'))
              refine (Calls.mono HG6.out) ?_
              rintro e w7 ⟨rfl, b7⟩
              have I7 : HiI w g n w7 (k + 1) p5 m5 := ⟨F6.out.1.mine.later b7, F6.out.1.inv, F6.out.1.sz⟩
              have HL7 : Hid _ := wdHeld_any g p5 m5 w7 I7.mine.ok
              have HB7 : Hid _ := wdBusy_any g p5 m5 w7 I7.mine.ok
              rw [HX.out.1] at HL7
              rw [HX.out.2] at HB7
              have F7 : Hid _ := I7
              clear b7 I7 HL6 HB6 HG6 F6
              go_wp2_with (first | (go_at_call 19; refine (Calls.mono HL7.out) ?_; rintro e w' ⟨rfl, hw'⟩; obtain rfl := hw'.symm; clear hw') | (go_at_call 20; refine (Calls.mono HB7.out) ?_; rintro e w' ⟨rfl, hw'⟩; obtain rfl := hw'.symm; clear hw'))
              go_wp2
              go_roundw
              case rel => exact ⟨k + 1, _, _, by go_num, by omega, F7.out⟩
              case measure => simp [intOf]; omega
            · go_wp2_with (first | (go_at_call 19; refine (Calls.mono HL6.out) ?_; rintro e w' ⟨rfl, hw'⟩; obtain rfl := hw'.symm; clear hw') | (go_at_call 20; refine (Calls.mono HB6.out) ?_; rintro e w' ⟨rfl, hw'⟩; obtain rfl := hw'.symm; clear hw'))
              go_wp2
              go_roundw
              case rel => exact ⟨k + 1, _, _, by go_num, by omega, F6.out.1⟩
              case measure => simp [intOf]; omega
          · go_wp2_with (first | (go_at_call 19; refine (Calls.mono HL6.out) ?_; rintro e w' ⟨rfl, hw'⟩; obtain rfl := hw'.symm; clear hw') | (go_at_call 20; refine (Calls.mono HB6.out) ?_; rintro e w' ⟨rfl, hw'⟩; obtain rfl := hw'.symm; clear hw'))
            go_wp2
            go_roundw
            case rel => exact ⟨k + 1, _, _, by go_num, by omega, F6.out.1⟩
            case measure => simp [intOf]; omega
    · rw [decide_eq_false hlt]
      have F : Hid _ := HI.out.mine.below
      clear HI HA
      go_wp2_with fail
      refine (Calls.mono (HK.out _)) ?_
      rintro e w9 ⟨rfl, b9⟩
      have F9 : Hid _ := below_then F.out b9
      clear b9 F HK
      go_wp2
      go_ret
      exact ⟨rfl, F9.out⟩
end Go.Proofs.Ytmbnhagfihphiaa
