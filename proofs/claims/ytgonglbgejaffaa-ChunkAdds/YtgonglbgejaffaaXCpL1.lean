/- The walk of ChunkAdds. -/
import Derived.Test.YtgonglbgejaffaaXCpD
namespace Go.Proofs.Ytgonglbgejaffaa
open Go.RowKit Go.Shelf
set_option linter.unusedVariables false
set_option linter.unusedSimpArgs false
set_option maxRecDepth 8000

set_option maxHeartbeats 16000000 in
theorem chunkAdds_walk (a : Option Addr) (len cap : Nat) (ls : List (List (BitVec 8))) (shut : Int) (w : World) (B0 : ls.length = len ∧ len ≤ cap ∧ len ≤ 140737488355328 ∧ SArgs w a ls) (hsh : -9223372036854775808 ≤ shut ∧ shut ≤ 9223372036854775807) :
    Calls Try.prog 4 #[.slice a len cap, .int .i64 shut] w fun e w' => e = .returned (.bool true) ∧ Below w.heap.size w w' := by
  obtain ⟨hl, hlc, hlm, hS0⟩ := B0
  subst hl
  have HS0 : Hid _ := hS0
  have HSH : Hid _ := hsh
  have N := cqNew_any w
  clear hS0 hsh
  go_enter Try.func4, Try.ntmps4
  go_wp2_with fail
  refine N.mono ?_
  rintro r w1 ⟨rfl, hO, b1⟩
  clear N
  have b2 : Below w1.heap.size w1 (w1.alloc (.cells #[.int .i64 0, .int .u32 0, .slice none 0 0, .slice none 0 0, .int .i64 0, .bool false] 41)) := (Below.refl _ _).alloc (Nat.le_refl _) _
  have Z1 : Sep w.heap.size [cqOb ⟨w.heap.size, 0, 0, [], .int .u32 0, false⟩ cr0] w1 := (Sep.nil (w := w)).fresh b1 hO (fun k hk => by
    rcases hk with hk | hk
    · rcases mem_cqW.1 hk with rfl | ⟨h0, -⟩ | ⟨h0, -⟩
      · exact Nat.le_refl _
      · exact absurd rfl h0
      · exact absurd rfl h0
    · cases hk)
  have Z2 : Sep w.heap.size [rqOb ⟨w1.heap.size, 0, 0, [], false⟩ cr0, cqOb ⟨w.heap.size, 0, 0, [], .int .u32 0, false⟩ cr0] (w1.alloc (.cells #[.int .i64 0, .int .u32 0, .slice none 0 0, .slice none 0 0, .int .i64 0, .bool false] 41)) := Z1.fresh b2 (rq0_ok w1) (fun k hk => by
    rcases hk with hk | hk
    · rcases mem_rqW.1 hk with rfl | ⟨h0, -⟩ | ⟨h0, -⟩
      · exact Nat.le_refl _
      · exact absurd rfl h0
      · exact absurd rfl h0
    · cases hk)
  have HI : Hid (AdI w.heap.size w (w1.alloc (.cells #[.int .i64 0, .int .u32 0, .slice none 0 0, .slice none 0 0, .int .i64 0, .bool false] 41)) w.heap.size w1.heap.size shut 0) := ⟨_, _, cr0, rfl, rfl, rfl, (fun e => by cases e), cr0_w, (fun _ => rfl), Int.le_refl _, Z2.swap, below_then b1 b2⟩
  clear hO b1 b2 Z1 Z2
  go_upto_region 5 with fail
  generalize w1.alloc (.cells #[.int .i64 0, .int .u32 0, .slice none 0 0, .slice none 0 0, .int .i64 0, .bool false] 41) = w2 at *
  generalize hgg : w.heap.size = g at HI ⊢
  have HG : Hid _ := hgg
  clear hgg
  generalize w1.heap.size = q0 at *
  rw [← HG.out] at HI
  go_wp2_with fail
  go_loopw [7] (fun iv wr => ∃ k : Nat, k ≤ ls.length ∧ iv = .int .i64 k ∧ AdI w.heap.size w wr g q0 shut k) (fun iv _ => ls.length - (intOf iv).toNat)
  case atStart => exact ⟨0, by omega, rfl, by rw [HG.out]; first | exact HI.out | (have := HI.out; rw [HG.out] at this; exact this)⟩
  case round =>
    obtain ⟨k, hk, rfl, hI⟩ := hrel
    by_cases hlt : k < ls.length ∧ k < 60
    · obtain ⟨hlt, hk60⟩ := hlt
      obtain ⟨b, off, x, c, rfl, hX⟩ : ∃ b off x c, a = some ⟨b, off, none⟩ ∧ ∀ W, Below w.heap.size w W → W.cell? ⟨b, off + k, none⟩ = some (.slice x ls[k].length c) ∧ Arg 140737488351232 W x ls[k].length c ls[k] := by
        rcases HS0.out with e | ⟨b, off, rfl, h⟩
        · rw [e] at hlt; exact absurd hlt (Nat.not_lt_zero _)
        · obtain ⟨x, c, h1, h2⟩ := h k hlt
          refine ⟨b, off, x, c, rfl, fun W hW => ?_⟩
          obtain ⟨x', c', h3, h4⟩ := (h k hlt).later hW
          have e : W.cell? ⟨b, off + k, none⟩ = some (.slice x ls[k].length c) := cell_later7 hW h1
          rw [e] at h3
          simp only [Option.some.injEq, Value.slice.injEq] at h3
          obtain ⟨rfl, -, rfl⟩ := h3
          exact ⟨e, h4⟩
      have HX : Hid _ := hX
      clear hX HI
      have q1 : (k : Int) < (ls.length : Int) := by omega
      have q2 : (k : Int) < 60 := by omega
      generalize ls[k] = lk at *
      obtain ⟨ushut, hush⟩ : ∃ b : Bool, b = decide ((k : Int) = shut) := ⟨_, rfl⟩
      by_cases hks : (k : Int) = shut
      · have hks2 : ((k : Int) == shut) = true := by rw [beq_iff_eq]; exact hks
        obtain ⟨p, q, m, hpg, hqg, hpq, hcl, hw, hz, had, Z, hb⟩ := hI
        have hcf : p.cl = false := by
          cases hc : p.cl with
          | false => rfl
          | true => have := hcl hc; omega
        have N : Calls Try.prog 15 #[.pointer (some ⟨g, 0, none⟩)] wr fun e w' => e = .returned (.bool true) ∧ Step wr w' (cqOb p m) (cqOb p.shut m) := by
          have := cqClose_any p m wr Z.head
          rw [hpg, hcf] at this
          exact this
        have HC : Hid _ := And.intro hpg (And.intro hqg (And.intro hw (And.intro hz (And.intro had (And.intro Z hb)))))
        have HKS : Hid _ := hks
        clear hpg hqg hpq hcl hw hz Z hb hcf hks
        go_wp2_with fail
        refine N.mono ?_
        rintro r u1 ⟨rfl, s1⟩
        clear N
        have Z1 := HC.out.2.2.2.2.2.1.step s1
        have hb1 := HC.out.2.2.2.2.2.2.trans (HC.out.2.2.2.2.2.1.below s1)
        have N : Calls Try.prog 15 #[.pointer (some ⟨g, 0, none⟩)] u1 fun e w' => e = .returned (.bool false) ∧ Step u1 w' (cqOb p.shut m) (cqOb p.shut.shut m) := by
          have := cqClose_any p.shut m u1 Z1.head
          rw [show p.shut.g = g from HC.out.1] at this
          exact this
        have H1 : Hid _ := And.intro Z1 hb1
        clear Z1 hb1 s1
        go_wp2_with fail
        refine N.mono ?_
        rintro r u2 ⟨rfl, s2⟩
        clear N
        have Z2 := (H1.out.1.step s2).swap
        have hb2 := H1.out.2.trans (H1.out.1.below s2)
        have hQ := Z2.head.holds
        have y5 := blk_at hQ.blk 5
        have f5 := blk_frozen hQ.blk 5
        rw [HC.out.2.1] at y5 f5
        simp only [List.getElem?_cons_zero, List.getElem?_cons_succ] at y5
        have s3 := rqShut_step Z2.head
        have Z3 := (Z2.step s3).swap
        have hb3 := hb2.trans (Z2.below s3)
        rw [HC.out.2.1] at Z3 hb3
        have H3 : Hid _ := And.intro Z3 hb3
        clear s2 Z2 hb2 hQ s3 Z3 hb3 H1
        go_upto_region 12 with fail
        clear y5 f5
        generalize u2.setCell ⟨q0, 5, none⟩ (.bool true) = u at *
        have HZ : Hid (∃ (p : CQl) (q : RQl) (m : CR), p.g = g ∧ q.g = q0 ∧ p.cl = q.cl ∧ (p.cl = true → shut < ((k + 1 : Nat) : Int)) ∧ CRw m ∧ (m.id = 0 → m.ps.length = 0) ∧ m.ad ≤ (k : Int) ∧ Sep w.heap.size [cqOb p m, rqOb q m] u ∧ Below w.heap.size w u) := ⟨p.shut.shut, ⟨q0, q.t, q.d, q.vs, true⟩, m, HC.out.1, rfl, rfl, (fun _ => by have := HKS.out; omega), HC.out.2.2.1, HC.out.2.2.2.1, HC.out.2.2.2.2.1, H3.out.1, H3.out.2⟩
        clear HC HKS H3 hks2 had
        obtain ⟨p, q, m, hpg, hqg, hpq, hcl, hw, hz, had, Z, hb⟩ := HZ.out
        clear HZ
        obtain ⟨hcell, hA⟩ := HX.out u hb
        have N := Lent_any x lk.length c lk u hA
        have HS : Hid _ := And.intro hw (And.intro hz (And.intro Z (And.intro hb (And.intro hA (And.intro hcl hpq)))))
        have HK : Hid (lk.length ≤ 140737488351232) := (show lk.length ≤ 140737488351232 by have h1 := hA.le; have h2 := hA.bound; omega)
        clear hw hz Z hb hA hcl hpq
        go_wp2_with fail
        clear hcell
        refine N.mono ?_
        rintro r w1 ⟨go, co, rfl, oo, hgo, hco, hcm, b1⟩
        clear N
        have Z1 := HS.out.2.2.1.fresh b1 (byOb_ok oo) (fun k' hk' => by rcases hk' with hk' | hk'; simp [byOb, Value.ownBlock] at hk'; omega; cases hk')
        have hb1 : Below w.heap.size w w1 := HS.out.2.2.2.1.trans (b1.mono HS.out.2.2.2.1.size)
        have H1 : Hid _ := And.intro Z1 (And.intro hb1 (And.intro oo hco))
        clear Z1 hb1 oo hgo hco hcm b1
        have N := cqAdd_any (some ⟨go, 0, none⟩) co lk p m w1 H1.out.1.swap.head HS.out.1 (by have := H1.out.2.2.2; omega) (own_rowC H1.out.2.2.1).frontC (fun e => by cases e) HK.out (by omega)
        rw [hpg] at N
        obtain ⟨E, hE⟩ : ∃ E, E = adE m p.cl lk := ⟨_, rfl⟩
        obtain ⟨m2, hm2⟩ : ∃ m2, m2 = adM m p.cl lk := ⟨_, rfl⟩
        rw [← hE, ← hm2] at N
        have HE : Hid (E = adE m p.cl lk ∧ m2 = adM m p.cl lk) := ⟨hE, hm2⟩
        clear hE hm2
        go_wp2_with fail
        refine N.mono ?_
        rintro r w2 ⟨rfl, p2, hp2, hc2, s2⟩
        clear N
        have Z2 := H1.out.1.swap.step s2
        have hb2 := H1.out.2.1.trans (H1.out.1.swap.below s2)
        have H2 : Hid _ := And.intro Z2 (And.intro hb2 (And.intro hp2 hc2))
        have HO : Hid _ := H1.out.2.2.2
        clear Z2 hb2 hp2 hc2 s2 H1
        obtain ⟨hcell, hA⟩ := HX.out w2 H2.out.2.1
        have N := rqAdd_any x c lk q m w2 H2.out.1.third.head HS.out.1 hA.le hA.row hA.isNil HK.out (by omega)
        rw [hqg, ← HS.out.2.2.2.2.2.2, ← HE.out.1, ← HE.out.2] at N
        have HA2 : Hid _ := hA
        clear hA
        go_wp2_with fail
        refine N.mono ?_
        rintro r w3 ⟨rfl, q2, hq2, hd2, s3⟩
        clear N hcell
        have Z3 := H2.out.1.third.step s3
        have hb3 := H2.out.2.1.trans (H2.out.1.third.below s3)
        obtain ⟨hcell, hA⟩ := HX.out w3 hb3
        have ol := Z3.third.head.holds
        have N := Kept_yes go lk.length co x c lk w3 rfl HO.out HK.out (own_rowC ol) hA.row
        have H3 : Hid _ := And.intro Z3 (And.intro hb3 (And.intro hq2 (And.intro hd2 ol)))
        clear Z3 hb3 hq2 hd2 ol s3 hA HA2
        go_wp2_with fail
        clear hcell
        refine N.mono ?_
        rintro r w3' ⟨rfl, hw3⟩
        clear N
        have hw4 := hw3.symm
        clear hw3
        subst hw4
        have N := Spoil_lentC go lk.length co lk w3 H3.out.2.2.2.2 HO.out HK.out
        go_wp2_with fail
        refine N.mono ?_
        rintro r w4 ⟨rfl, g4⟩
        clear N
        have s4 := spoiltC (v := .slice (some ⟨go, 0, none⟩) (lk.length + 1) co) H3.out.2.2.2.2 g4
        have Z4 := (H3.out.1.third.step s4).tail
        have hb4 := H3.out.2.1.trans (H3.out.1.third.below s4)
        have H4 : Hid (Sep w.heap.size [rqOb q2 m2, cqOb p2 m2] w4 ∧ Below w.heap.size w w4 ∧ CRw m2 ∧ (m2.id = 0 → m2.ps.length = 0) ∧ p2.g = g ∧ q2.g = q0 ∧ p2.cl = q2.cl ∧ (p2.cl = true → shut < ((k + 1 : Nat) : Int)) ∧ m2.ad ≤ ((k + 1 : Nat) : Int)) := by
          refine ⟨Z4, hb4, ?_, ?_, ?_, ?_, ?_, ?_, ?_⟩
          · rw [HE.out.2]; exact adM_w HS.out.1 _ _
          · rw [HE.out.2]; exact adM_z HS.out.1 HS.out.2.1 _ _
          · exact H2.out.2.2.1
          · exact H3.out.2.2.1
          · rw [H2.out.2.2.2, H3.out.2.2.2.1]
          · intro e
            rw [H2.out.2.2.2] at e
            have := HS.out.2.2.2.2.2.1 e
            omega
          · have := (adM_ad (m := m) p.cl lk).2
            rw [← HE.out.2] at this
            omega
        clear s4 g4 Z4 hb4 H3 H2 HE HS HO HK hpg hqg had
        have hpg := H4.out.2.2.2.2.1
        have hqg := H4.out.2.2.2.2.2.1
        have hll := H4.out.2.2.1.len
        have N := cqWhole_any p2 m2 w4 H4.out.1.swap.head H4.out.2.2.1.no H4.out.2.2.1.few (by omega)
        rw [hpg] at N
        obtain ⟨ok, hok⟩ : ∃ ok, ok = whB m2 := ⟨_, rfl⟩
        obtain ⟨wl, hwl⟩ : ∃ wl, wl = whL m2 := ⟨_, rfl⟩
        have hwll : wl.length ≤ 1048576 := by
          rw [hwl]
          unfold whL
          split
          · rw [flat_len]; exact hll
          · exact Nat.zero_le _
        rw [← hok, ← hwl] at N
        have HW : Hid (ok = whB m2 ∧ wl = whL m2) := ⟨hok, hwl⟩
        clear hok hwl
        go_wp2_with fail
        refine N.mono ?_
        rintro r w5 ⟨z, rfl, oz, b5⟩
        clear N
        obtain ⟨za, zc, rfl, hzc, -, rz, hzn, hzg⟩ := oz.open
        have hzlt := World.ownsRow.lt oz
        have Z5 := H4.out.1.fresh b5 (byOb_ok oz) (fun k' hk' => by
          rcases hk' with hk' | hk'
          · have hk2 : k' ∈ (Value.slice za wl.length zc).ownBlock.toList := hk'
            rw [Option.mem_toList] at hk2
            exact (hzlt k' hk2).1
          · cases hk')
        have H5 : Hid _ := And.intro Z5 (And.intro (H4.out.2.1.trans (b5.mono H4.out.2.1.size)) rz)
        clear Z5 b5 oz hzlt rz hzg hzn hzc
        have N := rqWhole_any q2 m2 w5 H5.out.1.swap.head H4.out.2.2.1 H4.out.2.2.2.1
        rw [hqg, ← HW.out.1, ← HW.out.2] at N
        go_wp2_with fail
        refine N.mono ?_
        rintro r w6 ⟨z, rfl, oy, b6⟩
        clear N HW
        obtain ⟨ya, yc, rfl, -, -, ry, -, -⟩ := oy.open
        have Z6 := H5.out.1.later b6
        have hb6 := below_then H5.out.2.1 b6
        have rz := H5.out.2.2.later b6
        have hQ := Z6.swap.head.holds
        have hC := Z6.third.head
        have HQ : Hid (∀ W, Below w6.heap.size w6 W → (convert 22 9 (.slice za wl.length zc)).run Try.prog W = .ok (.string (str wl)) W ∧ (convert 22 9 (.slice ya wl.length yc)).run Try.prog W = .ok (.string (str wl)) W ∧ W.cell? ⟨q0, 0, none⟩ = some (.int .i64 m2.id) ∧ W.cell? ⟨q0, 3, none⟩ = some (q2.dv m2.ps.length) ∧ W.cell? ⟨q0, 4, none⟩ = some (.int .i64 m2.ad)) := fun W hW => by
          have hB := hQ.blk.laterB hW
          rw [hqg] at hB
          exact ⟨(rz.later hW).str wl.length zc rfl, (ry.later hW).str wl.length yc rfl, blk_at hB 0, blk_at hB 3, blk_at hB 4⟩
        have HM1 : Hid (∀ W, Below w6.heap.size w6 W → Calls Try.prog 21 #[.pointer (some ⟨g, 0, none⟩)] W fun e w' => ∃ v, e = .returned v ∧ NOwn w' v (mis (m2.ps.map Option.isSome) m2.ps.length) ∧ Below W.heap.size W w') := fun W hW => by
          have := cqMissing_any p2 m2 W (hC.later hW) H4.out.2.2.1.few
          rw [hpg] at this
          exact this.mono (fun e w' ⟨v, h1, h2, h3, h4⟩ => ⟨v, h1, h2, h4⟩)
        have HM2 : Hid (∀ W, Below w6.heap.size w6 W → Calls Try.prog 22 #[.pointer (some ⟨q0, 0, none⟩)] W fun e w' => ∃ v, e = .returned v ∧ NOwn w' v (mis (m2.ps.map Option.isSome) m2.ps.length) ∧ Below W.heap.size W w') := fun W hW => by
          have := rqMissing_any q2 m2 W ((Z6.swap.head).later hW) H4.out.2.2.1.few
          rw [hqg] at this
          exact this.mono (fun e w' ⟨v, h1, h2, h3, h4⟩ => ⟨v, h1, h2, h4⟩)
        have HM3 : Hid (∀ W, Below w6.heap.size w6 W → Calls Try.prog 23 #[.pointer (some ⟨g, 0, none⟩)] W fun e w' => e = .returned (.int .i64 m2.id) ∧ Below W.heap.size W w') := fun W hW => by
          have := cqId_any p2 m2 W (hC.later hW)
          rw [hpg] at this
          exact this.mono (fun e w' ⟨h1, h2⟩ => ⟨h1, by rw [← h2]; exact Below.refl _ _⟩)
        have HM4 : Hid (∀ W, Below w6.heap.size w6 W → Calls Try.prog 24 #[.pointer (some ⟨g, 0, none⟩)] W fun e w' => e = .returned (.int .i64 m2.ps.length) ∧ Below W.heap.size W w') := fun W hW => by
          have := cqCount_any p2 m2 W (hC.later hW)
          rw [hpg] at this
          exact this.mono (fun e w' ⟨h1, h2⟩ => ⟨h1, by rw [← h2]; exact Below.refl _ _⟩)
        have HM5 : Hid (∀ W, Below w6.heap.size w6 W → Calls Try.prog 25 #[.pointer (some ⟨g, 0, none⟩)] W fun e w' => e = .returned (.int .i64 m2.ad) ∧ Below W.heap.size W w') := fun W hW => by
          have := cqAdded_any p2 m2 W (hC.later hW)
          rw [hpg] at this
          exact this.mono (fun e w' ⟨h1, h2⟩ => ⟨h1, by rw [← h2]; exact Below.refl _ _⟩)
        have H6 : Hid (Sep w.heap.size [byOb (.slice za wl.length zc) w4.heap.size wl, rqOb q2 m2, cqOb p2 m2] w6 ∧ Below w.heap.size w w6) := ⟨Z6, hb6⟩
        clear Z6 hb6 rz hQ hC oy ry b6 H5 hll
        obtain ⟨da, hda⟩ := rdv_is q2 m2.ps.length
        rw [hda] at HQ
        clear hda
        go_upto_region 19 with fail
        refine wp_region_held_drew (S := fun W => Below w6.heap.size w6 W) (by kernel_rfl) ((Below.refl _ _).drew) (fun hS => ?_)
        refine any_take (i := 0) (v := ?_) rfl (by kernel_rfl) (by kernel_rfl) (by kernel_rfl) (by exact fun _ _ _ h => h) (by rfl) ?_ hS ?_
        rotate_left
        · ((intro w hSw; have s1 := (HQ.out w hSw).1; have s2 := (HQ.out w hSw).2.1; have y0 := (HQ.out w hSw).2.2.1; have y3 := (HQ.out w hSw).2.2.2.1; have y4 := (HQ.out w hSw).2.2.2.2; clear hSw; go_simp) <;> with_reducible rfl)
        (try simp only [Act.put, List.setIfInBounds_toArray, List.set_cons_zero, List.set_cons_succ])
        refine any_take (i := 1) (v := ?_) rfl (by kernel_rfl) (by kernel_rfl) (by kernel_rfl) (by exact fun _ _ _ h => h) (by rfl) ?_ hS ?_
        rotate_left
        · ((intro w hSw; have s1 := (HQ.out w hSw).1; have s2 := (HQ.out w hSw).2.1; have y0 := (HQ.out w hSw).2.2.1; have y3 := (HQ.out w hSw).2.2.2.1; have y4 := (HQ.out w hSw).2.2.2.2; clear hSw; go_simp) <;> with_reducible rfl)
        (try simp only [Act.put, List.setIfInBounds_toArray, List.set_cons_zero, List.set_cons_succ])
        refine any_take (i := 2) (v := ?_) rfl (by kernel_rfl) (by kernel_rfl) (by kernel_rfl) (by exact fun _ _ _ h => h) (by rfl) ?_ hS ?_
        rotate_left
        · ((intro w hSw; have s1 := (HQ.out w hSw).1; have s2 := (HQ.out w hSw).2.1; have y0 := (HQ.out w hSw).2.2.1; have y3 := (HQ.out w hSw).2.2.2.1; have y4 := (HQ.out w hSw).2.2.2.2; clear hSw; go_simp) <;> with_reducible rfl)
        (try simp only [Act.put, List.setIfInBounds_toArray, List.set_cons_zero, List.set_cons_succ])
        refine any_take (i := 3) (v := ?_) rfl (by kernel_rfl) (by kernel_rfl) (by kernel_rfl) (by exact fun _ _ _ h => h) (by rfl) ?_ hS ?_
        rotate_left
        · ((intro w hSw; have s1 := (HQ.out w hSw).1; have s2 := (HQ.out w hSw).2.1; have y0 := (HQ.out w hSw).2.2.1; have y3 := (HQ.out w hSw).2.2.2.1; have y4 := (HQ.out w hSw).2.2.2.2; clear hSw; go_simp) <;> with_reducible rfl)
        (try simp only [Act.put, List.setIfInBounds_toArray, List.set_cons_zero, List.set_cons_succ])
        refine any_take (i := 4) (v := ?_) rfl (by kernel_rfl) (by kernel_rfl) (by kernel_rfl) (by exact fun _ _ _ h => h) (by rfl) ?_ hS ?_
        rotate_left
        · ((intro w hSw; have s1 := (HQ.out w hSw).1; have s2 := (HQ.out w hSw).2.1; have y0 := (HQ.out w hSw).2.2.1; have y3 := (HQ.out w hSw).2.2.2.1; have y4 := (HQ.out w hSw).2.2.2.2; clear hSw; go_simp) <;> with_reducible rfl)
        (try simp only [Act.put, List.setIfInBounds_toArray, List.set_cons_zero, List.set_cons_succ])
        refine any_take (i := 5) (v := ?_) rfl (by kernel_rfl) (by kernel_rfl) (by kernel_rfl) (by exact fun _ _ _ h => h) (by rfl) ?_ hS ?_
        rotate_left
        · ((intro w hSw; have s1 := (HQ.out w hSw).1; have s2 := (HQ.out w hSw).2.1; have y0 := (HQ.out w hSw).2.2.1; have y3 := (HQ.out w hSw).2.2.2.1; have y4 := (HQ.out w hSw).2.2.2.2; clear hSw; go_simp) <;> with_reducible rfl)
        (try simp only [Act.put, List.setIfInBounds_toArray, List.set_cons_zero, List.set_cons_succ])
        refine any_take (i := 6) (v := ?_) rfl (by kernel_rfl) (by kernel_rfl) (by kernel_rfl) (by exact fun _ _ _ h => h) (by rfl) ?_ hS ?_
        rotate_left
        · ((intro w hSw; have s1 := (HQ.out w hSw).1; have s2 := (HQ.out w hSw).2.1; have y0 := (HQ.out w hSw).2.2.1; have y3 := (HQ.out w hSw).2.2.2.1; have y4 := (HQ.out w hSw).2.2.2.2; clear hSw; go_simp) <;> with_reducible rfl)
        (try simp only [Act.put, List.setIfInBounds_toArray, List.set_cons_zero, List.set_cons_succ])
        refine any_take (i := 7) (v := ?_) rfl (by kernel_rfl) (by kernel_rfl) (by kernel_rfl) (by exact fun _ _ _ h => h) (by rfl) ?_ hS ?_
        rotate_left
        · ((intro w hSw; have s1 := (HQ.out w hSw).1; have s2 := (HQ.out w hSw).2.1; have y0 := (HQ.out w hSw).2.2.1; have y3 := (HQ.out w hSw).2.2.2.1; have y4 := (HQ.out w hSw).2.2.2.2; clear hSw; go_simp) <;> with_reducible rfl)
        (try simp only [Act.put, List.setIfInBounds_toArray, List.set_cons_zero, List.set_cons_succ])
        refine any_take (i := 8) (v := ?_) rfl (by kernel_rfl) (by kernel_rfl) (by kernel_rfl) (by exact fun _ _ _ h => h) (by rfl) ?_ hS ?_
        rotate_left
        · ((intro w hSw; have s1 := (HQ.out w hSw).1; have s2 := (HQ.out w hSw).2.1; have y0 := (HQ.out w hSw).2.2.1; have y3 := (HQ.out w hSw).2.2.2.1; have y4 := (HQ.out w hSw).2.2.2.2; clear hSw; go_simp) <;> with_reducible rfl)
        (try simp only [Act.put, List.setIfInBounds_toArray, List.set_cons_zero, List.set_cons_succ])
        refine any_take (i := 9) (v := ?_) rfl (by kernel_rfl) (by kernel_rfl) (by kernel_rfl) (by exact fun _ _ _ h => h) (by rfl) ?_ hS ?_
        rotate_left
        · ((intro w hSw; have s1 := (HQ.out w hSw).1; have s2 := (HQ.out w hSw).2.1; have y0 := (HQ.out w hSw).2.2.1; have y3 := (HQ.out w hSw).2.2.2.1; have y4 := (HQ.out w hSw).2.2.2.2; clear hSw; go_simp) <;> with_reducible rfl)
        (try simp only [Act.put, List.setIfInBounds_toArray, List.set_cons_zero, List.set_cons_succ])
        refine any_take (i := 10) (v := ?_) rfl (by kernel_rfl) (by kernel_rfl) (by kernel_rfl) (by exact fun _ _ _ h => h) (by rfl) ?_ hS ?_
        rotate_left
        · ((intro w hSw; have s1 := (HQ.out w hSw).1; have s2 := (HQ.out w hSw).2.1; have y0 := (HQ.out w hSw).2.2.1; have y3 := (HQ.out w hSw).2.2.2.1; have y4 := (HQ.out w hSw).2.2.2.2; clear hSw; go_simp) <;> with_reducible rfl)
        (try simp only [Act.put, List.setIfInBounds_toArray, List.set_cons_zero, List.set_cons_succ])
        refine any_take (i := 11) (v := ?_) rfl (by kernel_rfl) (by kernel_rfl) (by kernel_rfl) (by exact fun _ _ _ h => h) (by rfl) ?_ hS ?_
        rotate_left
        · ((intro w hSw; have s1 := (HQ.out w hSw).1; have s2 := (HQ.out w hSw).2.1; have y0 := (HQ.out w hSw).2.2.1; have y3 := (HQ.out w hSw).2.2.2.1; have y4 := (HQ.out w hSw).2.2.2.2; clear hSw; go_simp) <;> with_reducible rfl)
        (try simp only [Act.put, List.setIfInBounds_toArray, List.set_cons_zero, List.set_cons_succ])
        refine any_take (i := 13) (v := ?_) rfl (by kernel_rfl) (by kernel_rfl) (by kernel_rfl) (by exact fun _ _ _ h => h) (by rfl) ?_ hS ?_
        rotate_left
        · ((intro w hSw; have s1 := (HQ.out w hSw).1; have s2 := (HQ.out w hSw).2.1; have y0 := (HQ.out w hSw).2.2.1; have y3 := (HQ.out w hSw).2.2.2.1; have y4 := (HQ.out w hSw).2.2.2.2; clear hSw; go_simp) <;> with_reducible rfl)
        (try simp only [Act.put, List.setIfInBounds_toArray, List.set_cons_zero, List.set_cons_succ])
        refine any_one (i := 12) rfl (by kernel_rfl) (fun K hK => ?_)
        go_simp
        refine (Calls.mono ((HM1.out _ hS))) ?_
        rintro e x1 ⟨v1, rfl, o1, hbR⟩
        have O1 : Hid (NOwn x1 v1 (mis (m2.ps.map Option.isSome) m2.ps.length)) := o1
        clear o1
        have hS1 := below_then hS hbR
        clear hbR
        go_wp2_with fail
        refine hK.out _ _ (hS1) ?_
        clear hK K hS
        have hS := hS1
        refine any_one (i := 14) rfl (by kernel_rfl) (fun K hK => ?_)
        go_simp
        refine (Calls.mono ((HM2.out _ hS))) ?_
        rintro e x2 ⟨v2, rfl, o2, hbR⟩
        have O2 : Hid (NOwn x2 v1 (mis (m2.ps.map Option.isSome) m2.ps.length) ∧ NOwn x2 v2 (mis (m2.ps.map Option.isSome) m2.ps.length)) := And.intro (NOwn.later O1.out hbR) o2
        clear o2 O1
        have hS2 := below_then hS hbR
        clear hbR
        go_wp2_with fail
        refine hK.out _ _ (hS2) ?_
        clear hK K hS
        have hS := hS2
        refine any_one (i := 15) rfl (by kernel_rfl) (fun K hK => ?_)
        go_simp
        refine (Calls.mono ((same07_yes v1 v2 _ _ O2.out.1 O2.out.2))) ?_
        rintro e x3 ⟨rfl, hbR⟩
        clear O2
        have hS3 := below_then hS hbR
        clear hbR
        go_wp2_with fail
        refine hK.out _ _ (hS3) ?_
        clear hK K hS
        have hS := hS3
        refine any_take (i := 16) (v := ?_) rfl (by kernel_rfl) (by kernel_rfl) (by kernel_rfl) (by exact fun _ _ _ h => h) (by rfl) ?_ hS ?_
        rotate_left
        · ((intro w hSw; have s1 := (HQ.out w hSw).1; have s2 := (HQ.out w hSw).2.1; have y0 := (HQ.out w hSw).2.2.1; have y3 := (HQ.out w hSw).2.2.2.1; have y4 := (HQ.out w hSw).2.2.2.2; clear hSw; go_simp) <;> with_reducible rfl)
        (try simp only [Act.put, List.setIfInBounds_toArray, List.set_cons_zero, List.set_cons_succ])
        refine any_take (i := 17) (v := ?_) rfl (by kernel_rfl) (by kernel_rfl) (by kernel_rfl) (by exact fun _ _ _ h => h) (by rfl) ?_ hS ?_
        rotate_left
        · ((intro w hSw; have s1 := (HQ.out w hSw).1; have s2 := (HQ.out w hSw).2.1; have y0 := (HQ.out w hSw).2.2.1; have y3 := (HQ.out w hSw).2.2.2.1; have y4 := (HQ.out w hSw).2.2.2.2; clear hSw; go_simp) <;> with_reducible rfl)
        (try simp only [Act.put, List.setIfInBounds_toArray, List.set_cons_zero, List.set_cons_succ])
        refine any_take (i := 18) (v := ?_) rfl (by kernel_rfl) (by kernel_rfl) (by kernel_rfl) (by exact fun _ _ _ h => h) (by rfl) ?_ hS ?_
        rotate_left
        · ((intro w hSw; have s1 := (HQ.out w hSw).1; have s2 := (HQ.out w hSw).2.1; have y0 := (HQ.out w hSw).2.2.1; have y3 := (HQ.out w hSw).2.2.2.1; have y4 := (HQ.out w hSw).2.2.2.2; clear hSw; go_simp) <;> with_reducible rfl)
        (try simp only [Act.put, List.setIfInBounds_toArray, List.set_cons_zero, List.set_cons_succ])
        refine any_take (i := 19) (v := ?_) rfl (by kernel_rfl) (by kernel_rfl) (by kernel_rfl) (by exact fun _ _ _ h => h) (by rfl) ?_ hS ?_
        rotate_left
        · ((intro w hSw; have s1 := (HQ.out w hSw).1; have s2 := (HQ.out w hSw).2.1; have y0 := (HQ.out w hSw).2.2.1; have y3 := (HQ.out w hSw).2.2.2.1; have y4 := (HQ.out w hSw).2.2.2.2; clear hSw; go_simp) <;> with_reducible rfl)
        (try simp only [Act.put, List.setIfInBounds_toArray, List.set_cons_zero, List.set_cons_succ])
        refine any_take (i := 21) (v := ?_) rfl (by kernel_rfl) (by kernel_rfl) (by kernel_rfl) (by exact fun _ _ _ h => h) (by rfl) ?_ hS ?_
        rotate_left
        · ((intro w hSw; have s1 := (HQ.out w hSw).1; have s2 := (HQ.out w hSw).2.1; have y0 := (HQ.out w hSw).2.2.1; have y3 := (HQ.out w hSw).2.2.2.1; have y4 := (HQ.out w hSw).2.2.2.2; clear hSw; go_simp) <;> with_reducible rfl)
        (try simp only [Act.put, List.setIfInBounds_toArray, List.set_cons_zero, List.set_cons_succ])
        refine any_take (i := 22) (v := ?_) rfl (by kernel_rfl) (by kernel_rfl) (by kernel_rfl) (by exact fun _ _ _ h => h) (by rfl) ?_ hS ?_
        rotate_left
        · ((intro w hSw; have s1 := (HQ.out w hSw).1; have s2 := (HQ.out w hSw).2.1; have y0 := (HQ.out w hSw).2.2.1; have y3 := (HQ.out w hSw).2.2.2.1; have y4 := (HQ.out w hSw).2.2.2.2; clear hSw; go_simp) <;> with_reducible rfl)
        (try simp only [Act.put, List.setIfInBounds_toArray, List.set_cons_zero, List.set_cons_succ])
        refine any_take (i := 23) (v := ?_) rfl (by kernel_rfl) (by kernel_rfl) (by kernel_rfl) (by exact fun _ _ _ h => h) (by rfl) ?_ hS ?_
        rotate_left
        · ((intro w hSw; have s1 := (HQ.out w hSw).1; have s2 := (HQ.out w hSw).2.1; have y0 := (HQ.out w hSw).2.2.1; have y3 := (HQ.out w hSw).2.2.2.1; have y4 := (HQ.out w hSw).2.2.2.2; clear hSw; go_simp) <;> with_reducible rfl)
        (try simp only [Act.put, List.setIfInBounds_toArray, List.set_cons_zero, List.set_cons_succ])
        refine any_take (i := 24) (v := ?_) rfl (by kernel_rfl) (by kernel_rfl) (by kernel_rfl) (by exact fun _ _ _ h => h) (by rfl) ?_ hS ?_
        rotate_left
        · ((intro w hSw; have s1 := (HQ.out w hSw).1; have s2 := (HQ.out w hSw).2.1; have y0 := (HQ.out w hSw).2.2.1; have y3 := (HQ.out w hSw).2.2.2.1; have y4 := (HQ.out w hSw).2.2.2.2; clear hSw; go_simp) <;> with_reducible rfl)
        (try simp only [Act.put, List.setIfInBounds_toArray, List.set_cons_zero, List.set_cons_succ])
        refine any_one (i := 20) rfl (by kernel_rfl) (fun K hK => ?_)
        go_simp
        refine (Calls.mono ((HM3.out _ hS))) ?_
        rintro e x4 ⟨rfl, hbR⟩
        have hS4 := below_then hS hbR
        clear hbR
        go_wp2_with fail
        refine hK.out _ _ (hS4) ?_
        clear hK K hS
        have hS := hS4
        refine any_take (i := 25) (v := ?_) rfl (by kernel_rfl) (by kernel_rfl) (by kernel_rfl) (by exact fun _ _ _ h => h) (by rfl) ?_ hS ?_
        rotate_left
        · ((intro w hSw; have s1 := (HQ.out w hSw).1; have s2 := (HQ.out w hSw).2.1; have y0 := (HQ.out w hSw).2.2.1; have y3 := (HQ.out w hSw).2.2.2.1; have y4 := (HQ.out w hSw).2.2.2.2; clear hSw; go_simp) <;> with_reducible rfl)
        (try simp only [Act.put, List.setIfInBounds_toArray, List.set_cons_zero, List.set_cons_succ])
        refine any_take (i := 26) (v := ?_) rfl (by kernel_rfl) (by kernel_rfl) (by kernel_rfl) (by exact fun _ _ _ h => h) (by rfl) ?_ hS ?_
        rotate_left
        · ((intro w hSw; have s1 := (HQ.out w hSw).1; have s2 := (HQ.out w hSw).2.1; have y0 := (HQ.out w hSw).2.2.1; have y3 := (HQ.out w hSw).2.2.2.1; have y4 := (HQ.out w hSw).2.2.2.2; clear hSw; go_simp) <;> with_reducible rfl)
        (try simp only [Act.put, List.setIfInBounds_toArray, List.set_cons_zero, List.set_cons_succ])
        refine any_take (i := 27) (v := ?_) rfl (by kernel_rfl) (by kernel_rfl) (by kernel_rfl) (by exact fun _ _ _ h => h) (by rfl) ?_ hS ?_
        rotate_left
        · ((intro w hSw; have s1 := (HQ.out w hSw).1; have s2 := (HQ.out w hSw).2.1; have y0 := (HQ.out w hSw).2.2.1; have y3 := (HQ.out w hSw).2.2.2.1; have y4 := (HQ.out w hSw).2.2.2.2; clear hSw; go_simp) <;> with_reducible rfl)
        (try simp only [Act.put, List.setIfInBounds_toArray, List.set_cons_zero, List.set_cons_succ])
        refine any_take (i := 28) (v := ?_) rfl (by kernel_rfl) (by kernel_rfl) (by kernel_rfl) (by exact fun _ _ _ h => h) (by rfl) ?_ hS ?_
        rotate_left
        · ((intro w hSw; have s1 := (HQ.out w hSw).1; have s2 := (HQ.out w hSw).2.1; have y0 := (HQ.out w hSw).2.2.1; have y3 := (HQ.out w hSw).2.2.2.1; have y4 := (HQ.out w hSw).2.2.2.2; clear hSw; go_simp) <;> with_reducible rfl)
        (try simp only [Act.put, List.setIfInBounds_toArray, List.set_cons_zero, List.set_cons_succ])
        refine any_take (i := 30) (v := ?_) rfl (by kernel_rfl) (by kernel_rfl) (by kernel_rfl) (by exact fun _ _ _ h => h) (by rfl) ?_ hS ?_
        rotate_left
        · ((intro w hSw; have s1 := (HQ.out w hSw).1; have s2 := (HQ.out w hSw).2.1; have y0 := (HQ.out w hSw).2.2.1; have y3 := (HQ.out w hSw).2.2.2.1; have y4 := (HQ.out w hSw).2.2.2.2; clear hSw; go_simp) <;> with_reducible rfl)
        (try simp only [Act.put, List.setIfInBounds_toArray, List.set_cons_zero, List.set_cons_succ])
        refine any_take (i := 31) (v := ?_) rfl (by kernel_rfl) (by kernel_rfl) (by kernel_rfl) (by exact fun _ _ _ h => h) (by rfl) ?_ hS ?_
        rotate_left
        · ((intro w hSw; have s1 := (HQ.out w hSw).1; have s2 := (HQ.out w hSw).2.1; have y0 := (HQ.out w hSw).2.2.1; have y3 := (HQ.out w hSw).2.2.2.1; have y4 := (HQ.out w hSw).2.2.2.2; clear hSw; go_simp) <;> with_reducible rfl)
        (try simp only [Act.put, List.setIfInBounds_toArray, List.set_cons_zero, List.set_cons_succ])
        refine any_take (i := 32) (v := ?_) rfl (by kernel_rfl) (by kernel_rfl) (by kernel_rfl) (by exact fun _ _ _ h => h) (by rfl) ?_ hS ?_
        rotate_left
        · ((intro w hSw; have s1 := (HQ.out w hSw).1; have s2 := (HQ.out w hSw).2.1; have y0 := (HQ.out w hSw).2.2.1; have y3 := (HQ.out w hSw).2.2.2.1; have y4 := (HQ.out w hSw).2.2.2.2; clear hSw; go_simp) <;> with_reducible rfl)
        (try simp only [Act.put, List.setIfInBounds_toArray, List.set_cons_zero, List.set_cons_succ])
        refine any_take (i := 33) (v := ?_) rfl (by kernel_rfl) (by kernel_rfl) (by kernel_rfl) (by exact fun _ _ _ h => h) (by rfl) ?_ hS ?_
        rotate_left
        · ((intro w hSw; have s1 := (HQ.out w hSw).1; have s2 := (HQ.out w hSw).2.1; have y0 := (HQ.out w hSw).2.2.1; have y3 := (HQ.out w hSw).2.2.2.1; have y4 := (HQ.out w hSw).2.2.2.2; clear hSw; go_simp) <;> with_reducible rfl)
        (try simp only [Act.put, List.setIfInBounds_toArray, List.set_cons_zero, List.set_cons_succ])
        refine any_take (i := 34) (v := ?_) rfl (by kernel_rfl) (by kernel_rfl) (by kernel_rfl) (by exact fun _ _ _ h => h) (by rfl) ?_ hS ?_
        rotate_left
        · ((intro w hSw; have s1 := (HQ.out w hSw).1; have s2 := (HQ.out w hSw).2.1; have y0 := (HQ.out w hSw).2.2.1; have y3 := (HQ.out w hSw).2.2.2.1; have y4 := (HQ.out w hSw).2.2.2.2; clear hSw; go_simp) <;> with_reducible rfl)
        (try simp only [Act.put, List.setIfInBounds_toArray, List.set_cons_zero, List.set_cons_succ])
        refine any_one (i := 29) rfl (by kernel_rfl) (fun K hK => ?_)
        go_simp
        refine (Calls.mono ((HM4.out _ hS))) ?_
        rintro e x5 ⟨rfl, hbR⟩
        have hS5 := below_then hS hbR
        clear hbR
        go_wp2_with fail
        refine hK.out _ _ (hS5) ?_
        clear hK K hS
        have hS := hS5
        refine any_take (i := 35) (v := ?_) rfl (by kernel_rfl) (by kernel_rfl) (by kernel_rfl) (by exact fun _ _ _ h => h) (by rfl) ?_ hS ?_
        rotate_left
        · ((intro w hSw; have s1 := (HQ.out w hSw).1; have s2 := (HQ.out w hSw).2.1; have y0 := (HQ.out w hSw).2.2.1; have y3 := (HQ.out w hSw).2.2.2.1; have y4 := (HQ.out w hSw).2.2.2.2; clear hSw; go_simp) <;> with_reducible rfl)
        (try simp only [Act.put, List.setIfInBounds_toArray, List.set_cons_zero, List.set_cons_succ])
        refine any_take (i := 36) (v := ?_) rfl (by kernel_rfl) (by kernel_rfl) (by kernel_rfl) (by exact fun _ _ _ h => h) (by rfl) ?_ hS ?_
        rotate_left
        · ((intro w hSw; have s1 := (HQ.out w hSw).1; have s2 := (HQ.out w hSw).2.1; have y0 := (HQ.out w hSw).2.2.1; have y3 := (HQ.out w hSw).2.2.2.1; have y4 := (HQ.out w hSw).2.2.2.2; clear hSw; go_simp) <;> with_reducible rfl)
        (try simp only [Act.put, List.setIfInBounds_toArray, List.set_cons_zero, List.set_cons_succ])
        refine any_take (i := 37) (v := ?_) rfl (by kernel_rfl) (by kernel_rfl) (by kernel_rfl) (by exact fun _ _ _ h => h) (by rfl) ?_ hS ?_
        rotate_left
        · ((intro w hSw; have s1 := (HQ.out w hSw).1; have s2 := (HQ.out w hSw).2.1; have y0 := (HQ.out w hSw).2.2.1; have y3 := (HQ.out w hSw).2.2.2.1; have y4 := (HQ.out w hSw).2.2.2.2; clear hSw; go_simp) <;> with_reducible rfl)
        (try simp only [Act.put, List.setIfInBounds_toArray, List.set_cons_zero, List.set_cons_succ])
        refine any_take (i := 38) (v := ?_) rfl (by kernel_rfl) (by kernel_rfl) (by kernel_rfl) (by exact fun _ _ _ h => h) (by rfl) ?_ hS ?_
        rotate_left
        · ((intro w hSw; have s1 := (HQ.out w hSw).1; have s2 := (HQ.out w hSw).2.1; have y0 := (HQ.out w hSw).2.2.1; have y3 := (HQ.out w hSw).2.2.2.1; have y4 := (HQ.out w hSw).2.2.2.2; clear hSw; go_simp) <;> with_reducible rfl)
        (try simp only [Act.put, List.setIfInBounds_toArray, List.set_cons_zero, List.set_cons_succ])
        refine any_take (i := 40) (v := ?_) rfl (by kernel_rfl) (by kernel_rfl) (by kernel_rfl) (by exact fun _ _ _ h => h) (by rfl) ?_ hS ?_
        rotate_left
        · ((intro w hSw; have s1 := (HQ.out w hSw).1; have s2 := (HQ.out w hSw).2.1; have y0 := (HQ.out w hSw).2.2.1; have y3 := (HQ.out w hSw).2.2.2.1; have y4 := (HQ.out w hSw).2.2.2.2; clear hSw; go_simp) <;> with_reducible rfl)
        (try simp only [Act.put, List.setIfInBounds_toArray, List.set_cons_zero, List.set_cons_succ])
        refine any_take (i := 41) (v := ?_) rfl (by kernel_rfl) (by kernel_rfl) (by kernel_rfl) (by exact fun _ _ _ h => h) (by rfl) ?_ hS ?_
        rotate_left
        · ((intro w hSw; have s1 := (HQ.out w hSw).1; have s2 := (HQ.out w hSw).2.1; have y0 := (HQ.out w hSw).2.2.1; have y3 := (HQ.out w hSw).2.2.2.1; have y4 := (HQ.out w hSw).2.2.2.2; clear hSw; go_simp) <;> with_reducible rfl)
        (try simp only [Act.put, List.setIfInBounds_toArray, List.set_cons_zero, List.set_cons_succ])
        refine any_take (i := 42) (v := ?_) rfl (by kernel_rfl) (by kernel_rfl) (by kernel_rfl) (by exact fun _ _ _ h => h) (by rfl) ?_ hS ?_
        rotate_left
        · ((intro w hSw; have s1 := (HQ.out w hSw).1; have s2 := (HQ.out w hSw).2.1; have y0 := (HQ.out w hSw).2.2.1; have y3 := (HQ.out w hSw).2.2.2.1; have y4 := (HQ.out w hSw).2.2.2.2; clear hSw; go_simp) <;> with_reducible rfl)
        (try simp only [Act.put, List.setIfInBounds_toArray, List.set_cons_zero, List.set_cons_succ])
        refine any_take (i := 43) (v := ?_) rfl (by kernel_rfl) (by kernel_rfl) (by kernel_rfl) (by exact fun _ _ _ h => h) (by rfl) ?_ hS ?_
        rotate_left
        · ((intro w hSw; have s1 := (HQ.out w hSw).1; have s2 := (HQ.out w hSw).2.1; have y0 := (HQ.out w hSw).2.2.1; have y3 := (HQ.out w hSw).2.2.2.1; have y4 := (HQ.out w hSw).2.2.2.2; clear hSw; go_simp) <;> with_reducible rfl)
        (try simp only [Act.put, List.setIfInBounds_toArray, List.set_cons_zero, List.set_cons_succ])
        refine any_one (i := 39) rfl (by kernel_rfl) (fun K hK => ?_)
        go_simp
        refine (Calls.mono ((HM5.out _ hS))) ?_
        rintro e x6 ⟨rfl, hbR⟩
        have hS6 := below_then hS hbR
        clear hbR
        go_wp2_with fail
        refine hK.out _ _ (hS6) ?_
        clear hK K hS
        have hS := hS6
        refine any_take (i := 44) (v := ?_) rfl (by kernel_rfl) (by kernel_rfl) (by kernel_rfl) (by exact fun _ _ _ h => h) (by rfl) ?_ hS ?_
        rotate_left
        · ((intro w hSw; have s1 := (HQ.out w hSw).1; have s2 := (HQ.out w hSw).2.1; have y0 := (HQ.out w hSw).2.2.1; have y3 := (HQ.out w hSw).2.2.2.1; have y4 := (HQ.out w hSw).2.2.2.2; clear hSw; go_simp) <;> with_reducible rfl)
        (try simp only [Act.put, List.setIfInBounds_toArray, List.set_cons_zero, List.set_cons_succ])
        refine any_take (i := 45) (v := ?_) rfl (by kernel_rfl) (by kernel_rfl) (by kernel_rfl) (by exact fun _ _ _ h => h) (by rfl) ?_ hS ?_
        rotate_left
        · ((intro w hSw; have s1 := (HQ.out w hSw).1; have s2 := (HQ.out w hSw).2.1; have y0 := (HQ.out w hSw).2.2.1; have y3 := (HQ.out w hSw).2.2.2.1; have y4 := (HQ.out w hSw).2.2.2.2; clear hSw; go_simp) <;> with_reducible rfl)
        (try simp only [Act.put, List.setIfInBounds_toArray, List.set_cons_zero, List.set_cons_succ])
        refine wpAnyH_done (by kernel_rfl) ?_ _
        have Z9 := H6.out.1.later hS
        have hb9 := below_then H6.out.2 hS
        have oz := Z9.head.holds
        have N := Spoil_own (.slice za wl.length zc) _ wl _ oz (by omega)
        have H9 : Hid _ := And.intro Z9 (And.intro hb9 oz)
        clear HQ HM1 HM2 HM3 HM4 HM5 Z9 hb9 oz H6 hS
        go_wp2_with fail
        refine N.mono ?_
        rintro r wz ⟨rfl, gz⟩
        clear N
        have s9 := spoiltC (v := .slice za wl.length zc) H9.out.2.2 gz
        have Z := (H9.out.1.step s9).tail.swap
        have hbz := H9.out.2.1.trans (H9.out.1.below s9)
        have F : Hid (AdI w.heap.size w wz g q0 shut (k + 1)) := ⟨p2, q2, m2, hpg, hqg, H4.out.2.2.2.2.2.2.1, H4.out.2.2.2.2.2.2.2.1, H4.out.2.2.1, H4.out.2.2.2.1, H4.out.2.2.2.2.2.2.2.2, Z, hbz⟩
        clear s9 gz Z hbz H9 H4 hpg hqg
        go_wp2
        go_roundw
        case rel => exact ⟨k + 1, by omega, by go_num, F.out⟩
        case measure => simp [intOf]; omega
      · have hks2 : ((k : Int) == shut) = false := by rw [beq_eq_false_iff_ne]; exact hks
        obtain ⟨u, hu⟩ : ∃ u, u = wr := ⟨_, rfl⟩
        subst hu
        have HZ : Hid (∃ (p : CQl) (q : RQl) (m : CR), p.g = g ∧ q.g = q0 ∧ p.cl = q.cl ∧ (p.cl = true → shut < ((k + 1 : Nat) : Int)) ∧ CRw m ∧ (m.id = 0 → m.ps.length = 0) ∧ m.ad ≤ (k : Int) ∧ Sep w.heap.size [cqOb p m, rqOb q m] u ∧ Below w.heap.size w u) := by
          obtain ⟨p, q, m, h1, h2, h3, h4, h5, h6, h7, h8, h9⟩ := hI
          exact ⟨p, q, m, h1, h2, h3, (fun e => by have := h4 e; omega), h5, h6, h7, h8, h9⟩
        clear hI
        go_upto_region 12 with fail
        clear hks2
        obtain ⟨p, q, m, hpg, hqg, hpq, hcl, hw, hz, had, Z, hb⟩ := HZ.out
        clear HZ
        obtain ⟨hcell, hA⟩ := HX.out u hb
        have N := Lent_any x lk.length c lk u hA
        have HS : Hid _ := And.intro hw (And.intro hz (And.intro Z (And.intro hb (And.intro hA (And.intro hcl hpq)))))
        have HK : Hid (lk.length ≤ 140737488351232) := (show lk.length ≤ 140737488351232 by have h1 := hA.le; have h2 := hA.bound; omega)
        clear hw hz Z hb hA hcl hpq
        go_wp2_with fail
        clear hcell
        refine N.mono ?_
        rintro r w1 ⟨go, co, rfl, oo, hgo, hco, hcm, b1⟩
        clear N
        have Z1 := HS.out.2.2.1.fresh b1 (byOb_ok oo) (fun k' hk' => by rcases hk' with hk' | hk'; simp [byOb, Value.ownBlock] at hk'; omega; cases hk')
        have hb1 : Below w.heap.size w w1 := HS.out.2.2.2.1.trans (b1.mono HS.out.2.2.2.1.size)
        have H1 : Hid _ := And.intro Z1 (And.intro hb1 (And.intro oo hco))
        clear Z1 hb1 oo hgo hco hcm b1
        have N := cqAdd_any (some ⟨go, 0, none⟩) co lk p m w1 H1.out.1.swap.head HS.out.1 (by have := H1.out.2.2.2; omega) (own_rowC H1.out.2.2.1).frontC (fun e => by cases e) HK.out (by omega)
        rw [hpg] at N
        obtain ⟨E, hE⟩ : ∃ E, E = adE m p.cl lk := ⟨_, rfl⟩
        obtain ⟨m2, hm2⟩ : ∃ m2, m2 = adM m p.cl lk := ⟨_, rfl⟩
        rw [← hE, ← hm2] at N
        have HE : Hid (E = adE m p.cl lk ∧ m2 = adM m p.cl lk) := ⟨hE, hm2⟩
        clear hE hm2
        go_wp2_with fail
        refine N.mono ?_
        rintro r w2 ⟨rfl, p2, hp2, hc2, s2⟩
        clear N
        have Z2 := H1.out.1.swap.step s2
        have hb2 := H1.out.2.1.trans (H1.out.1.swap.below s2)
        have H2 : Hid _ := And.intro Z2 (And.intro hb2 (And.intro hp2 hc2))
        have HO : Hid _ := H1.out.2.2.2
        clear Z2 hb2 hp2 hc2 s2 H1
        obtain ⟨hcell, hA⟩ := HX.out w2 H2.out.2.1
        have N := rqAdd_any x c lk q m w2 H2.out.1.third.head HS.out.1 hA.le hA.row hA.isNil HK.out (by omega)
        rw [hqg, ← HS.out.2.2.2.2.2.2, ← HE.out.1, ← HE.out.2] at N
        have HA2 : Hid _ := hA
        clear hA
        go_wp2_with fail
        refine N.mono ?_
        rintro r w3 ⟨rfl, q2, hq2, hd2, s3⟩
        clear N hcell
        have Z3 := H2.out.1.third.step s3
        have hb3 := H2.out.2.1.trans (H2.out.1.third.below s3)
        obtain ⟨hcell, hA⟩ := HX.out w3 hb3
        have ol := Z3.third.head.holds
        have N := Kept_yes go lk.length co x c lk w3 rfl HO.out HK.out (own_rowC ol) hA.row
        have H3 : Hid _ := And.intro Z3 (And.intro hb3 (And.intro hq2 (And.intro hd2 ol)))
        clear Z3 hb3 hq2 hd2 ol s3 hA HA2
        go_wp2_with fail
        clear hcell
        refine N.mono ?_
        rintro r w3' ⟨rfl, hw3⟩
        clear N
        have hw4 := hw3.symm
        clear hw3
        subst hw4
        have N := Spoil_lentC go lk.length co lk w3 H3.out.2.2.2.2 HO.out HK.out
        go_wp2_with fail
        refine N.mono ?_
        rintro r w4 ⟨rfl, g4⟩
        clear N
        have s4 := spoiltC (v := .slice (some ⟨go, 0, none⟩) (lk.length + 1) co) H3.out.2.2.2.2 g4
        have Z4 := (H3.out.1.third.step s4).tail
        have hb4 := H3.out.2.1.trans (H3.out.1.third.below s4)
        have H4 : Hid (Sep w.heap.size [rqOb q2 m2, cqOb p2 m2] w4 ∧ Below w.heap.size w w4 ∧ CRw m2 ∧ (m2.id = 0 → m2.ps.length = 0) ∧ p2.g = g ∧ q2.g = q0 ∧ p2.cl = q2.cl ∧ (p2.cl = true → shut < ((k + 1 : Nat) : Int)) ∧ m2.ad ≤ ((k + 1 : Nat) : Int)) := by
          refine ⟨Z4, hb4, ?_, ?_, ?_, ?_, ?_, ?_, ?_⟩
          · rw [HE.out.2]; exact adM_w HS.out.1 _ _
          · rw [HE.out.2]; exact adM_z HS.out.1 HS.out.2.1 _ _
          · exact H2.out.2.2.1
          · exact H3.out.2.2.1
          · rw [H2.out.2.2.2, H3.out.2.2.2.1]
          · intro e
            rw [H2.out.2.2.2] at e
            have := HS.out.2.2.2.2.2.1 e
            omega
          · have := (adM_ad (m := m) p.cl lk).2
            rw [← HE.out.2] at this
            omega
        clear s4 g4 Z4 hb4 H3 H2 HE HS HO HK hpg hqg had
        have hpg := H4.out.2.2.2.2.1
        have hqg := H4.out.2.2.2.2.2.1
        have hll := H4.out.2.2.1.len
        have N := cqWhole_any p2 m2 w4 H4.out.1.swap.head H4.out.2.2.1.no H4.out.2.2.1.few (by omega)
        rw [hpg] at N
        obtain ⟨ok, hok⟩ : ∃ ok, ok = whB m2 := ⟨_, rfl⟩
        obtain ⟨wl, hwl⟩ : ∃ wl, wl = whL m2 := ⟨_, rfl⟩
        have hwll : wl.length ≤ 1048576 := by
          rw [hwl]
          unfold whL
          split
          · rw [flat_len]; exact hll
          · exact Nat.zero_le _
        rw [← hok, ← hwl] at N
        have HW : Hid (ok = whB m2 ∧ wl = whL m2) := ⟨hok, hwl⟩
        clear hok hwl
        go_wp2_with fail
        refine N.mono ?_
        rintro r w5 ⟨z, rfl, oz, b5⟩
        clear N
        obtain ⟨za, zc, rfl, hzc, -, rz, hzn, hzg⟩ := oz.open
        have hzlt := World.ownsRow.lt oz
        have Z5 := H4.out.1.fresh b5 (byOb_ok oz) (fun k' hk' => by
          rcases hk' with hk' | hk'
          · have hk2 : k' ∈ (Value.slice za wl.length zc).ownBlock.toList := hk'
            rw [Option.mem_toList] at hk2
            exact (hzlt k' hk2).1
          · cases hk')
        have H5 : Hid _ := And.intro Z5 (And.intro (H4.out.2.1.trans (b5.mono H4.out.2.1.size)) rz)
        clear Z5 b5 oz hzlt rz hzg hzn hzc
        have N := rqWhole_any q2 m2 w5 H5.out.1.swap.head H4.out.2.2.1 H4.out.2.2.2.1
        rw [hqg, ← HW.out.1, ← HW.out.2] at N
        go_wp2_with fail
        refine N.mono ?_
        rintro r w6 ⟨z, rfl, oy, b6⟩
        clear N HW
        obtain ⟨ya, yc, rfl, -, -, ry, -, -⟩ := oy.open
        have Z6 := H5.out.1.later b6
        have hb6 := below_then H5.out.2.1 b6
        have rz := H5.out.2.2.later b6
        have hQ := Z6.swap.head.holds
        have hC := Z6.third.head
        have HQ : Hid (∀ W, Below w6.heap.size w6 W → (convert 22 9 (.slice za wl.length zc)).run Try.prog W = .ok (.string (str wl)) W ∧ (convert 22 9 (.slice ya wl.length yc)).run Try.prog W = .ok (.string (str wl)) W ∧ W.cell? ⟨q0, 0, none⟩ = some (.int .i64 m2.id) ∧ W.cell? ⟨q0, 3, none⟩ = some (q2.dv m2.ps.length) ∧ W.cell? ⟨q0, 4, none⟩ = some (.int .i64 m2.ad)) := fun W hW => by
          have hB := hQ.blk.laterB hW
          rw [hqg] at hB
          exact ⟨(rz.later hW).str wl.length zc rfl, (ry.later hW).str wl.length yc rfl, blk_at hB 0, blk_at hB 3, blk_at hB 4⟩
        have HM1 : Hid (∀ W, Below w6.heap.size w6 W → Calls Try.prog 21 #[.pointer (some ⟨g, 0, none⟩)] W fun e w' => ∃ v, e = .returned v ∧ NOwn w' v (mis (m2.ps.map Option.isSome) m2.ps.length) ∧ Below W.heap.size W w') := fun W hW => by
          have := cqMissing_any p2 m2 W (hC.later hW) H4.out.2.2.1.few
          rw [hpg] at this
          exact this.mono (fun e w' ⟨v, h1, h2, h3, h4⟩ => ⟨v, h1, h2, h4⟩)
        have HM2 : Hid (∀ W, Below w6.heap.size w6 W → Calls Try.prog 22 #[.pointer (some ⟨q0, 0, none⟩)] W fun e w' => ∃ v, e = .returned v ∧ NOwn w' v (mis (m2.ps.map Option.isSome) m2.ps.length) ∧ Below W.heap.size W w') := fun W hW => by
          have := rqMissing_any q2 m2 W ((Z6.swap.head).later hW) H4.out.2.2.1.few
          rw [hqg] at this
          exact this.mono (fun e w' ⟨v, h1, h2, h3, h4⟩ => ⟨v, h1, h2, h4⟩)
        have HM3 : Hid (∀ W, Below w6.heap.size w6 W → Calls Try.prog 23 #[.pointer (some ⟨g, 0, none⟩)] W fun e w' => e = .returned (.int .i64 m2.id) ∧ Below W.heap.size W w') := fun W hW => by
          have := cqId_any p2 m2 W (hC.later hW)
          rw [hpg] at this
          exact this.mono (fun e w' ⟨h1, h2⟩ => ⟨h1, by rw [← h2]; exact Below.refl _ _⟩)
        have HM4 : Hid (∀ W, Below w6.heap.size w6 W → Calls Try.prog 24 #[.pointer (some ⟨g, 0, none⟩)] W fun e w' => e = .returned (.int .i64 m2.ps.length) ∧ Below W.heap.size W w') := fun W hW => by
          have := cqCount_any p2 m2 W (hC.later hW)
          rw [hpg] at this
          exact this.mono (fun e w' ⟨h1, h2⟩ => ⟨h1, by rw [← h2]; exact Below.refl _ _⟩)
        have HM5 : Hid (∀ W, Below w6.heap.size w6 W → Calls Try.prog 25 #[.pointer (some ⟨g, 0, none⟩)] W fun e w' => e = .returned (.int .i64 m2.ad) ∧ Below W.heap.size W w') := fun W hW => by
          have := cqAdded_any p2 m2 W (hC.later hW)
          rw [hpg] at this
          exact this.mono (fun e w' ⟨h1, h2⟩ => ⟨h1, by rw [← h2]; exact Below.refl _ _⟩)
        have H6 : Hid (Sep w.heap.size [byOb (.slice za wl.length zc) w4.heap.size wl, rqOb q2 m2, cqOb p2 m2] w6 ∧ Below w.heap.size w w6) := ⟨Z6, hb6⟩
        clear Z6 hb6 rz hQ hC oy ry b6 H5 hll
        obtain ⟨da, hda⟩ := rdv_is q2 m2.ps.length
        rw [hda] at HQ
        clear hda
        go_upto_region 19 with fail
        refine wp_region_held_drew (S := fun W => Below w6.heap.size w6 W) (by kernel_rfl) ((Below.refl _ _).drew) (fun hS => ?_)
        refine any_take (i := 0) (v := ?_) rfl (by kernel_rfl) (by kernel_rfl) (by kernel_rfl) (by exact fun _ _ _ h => h) (by rfl) ?_ hS ?_
        rotate_left
        · ((intro w hSw; have s1 := (HQ.out w hSw).1; have s2 := (HQ.out w hSw).2.1; have y0 := (HQ.out w hSw).2.2.1; have y3 := (HQ.out w hSw).2.2.2.1; have y4 := (HQ.out w hSw).2.2.2.2; clear hSw; go_simp) <;> with_reducible rfl)
        (try simp only [Act.put, List.setIfInBounds_toArray, List.set_cons_zero, List.set_cons_succ])
        refine any_take (i := 1) (v := ?_) rfl (by kernel_rfl) (by kernel_rfl) (by kernel_rfl) (by exact fun _ _ _ h => h) (by rfl) ?_ hS ?_
        rotate_left
        · ((intro w hSw; have s1 := (HQ.out w hSw).1; have s2 := (HQ.out w hSw).2.1; have y0 := (HQ.out w hSw).2.2.1; have y3 := (HQ.out w hSw).2.2.2.1; have y4 := (HQ.out w hSw).2.2.2.2; clear hSw; go_simp) <;> with_reducible rfl)
        (try simp only [Act.put, List.setIfInBounds_toArray, List.set_cons_zero, List.set_cons_succ])
        refine any_take (i := 2) (v := ?_) rfl (by kernel_rfl) (by kernel_rfl) (by kernel_rfl) (by exact fun _ _ _ h => h) (by rfl) ?_ hS ?_
        rotate_left
        · ((intro w hSw; have s1 := (HQ.out w hSw).1; have s2 := (HQ.out w hSw).2.1; have y0 := (HQ.out w hSw).2.2.1; have y3 := (HQ.out w hSw).2.2.2.1; have y4 := (HQ.out w hSw).2.2.2.2; clear hSw; go_simp) <;> with_reducible rfl)
        (try simp only [Act.put, List.setIfInBounds_toArray, List.set_cons_zero, List.set_cons_succ])
        refine any_take (i := 3) (v := ?_) rfl (by kernel_rfl) (by kernel_rfl) (by kernel_rfl) (by exact fun _ _ _ h => h) (by rfl) ?_ hS ?_
        rotate_left
        · ((intro w hSw; have s1 := (HQ.out w hSw).1; have s2 := (HQ.out w hSw).2.1; have y0 := (HQ.out w hSw).2.2.1; have y3 := (HQ.out w hSw).2.2.2.1; have y4 := (HQ.out w hSw).2.2.2.2; clear hSw; go_simp) <;> with_reducible rfl)
        (try simp only [Act.put, List.setIfInBounds_toArray, List.set_cons_zero, List.set_cons_succ])
        refine any_take (i := 4) (v := ?_) rfl (by kernel_rfl) (by kernel_rfl) (by kernel_rfl) (by exact fun _ _ _ h => h) (by rfl) ?_ hS ?_
        rotate_left
        · ((intro w hSw; have s1 := (HQ.out w hSw).1; have s2 := (HQ.out w hSw).2.1; have y0 := (HQ.out w hSw).2.2.1; have y3 := (HQ.out w hSw).2.2.2.1; have y4 := (HQ.out w hSw).2.2.2.2; clear hSw; go_simp) <;> with_reducible rfl)
        (try simp only [Act.put, List.setIfInBounds_toArray, List.set_cons_zero, List.set_cons_succ])
        refine any_take (i := 5) (v := ?_) rfl (by kernel_rfl) (by kernel_rfl) (by kernel_rfl) (by exact fun _ _ _ h => h) (by rfl) ?_ hS ?_
        rotate_left
        · ((intro w hSw; have s1 := (HQ.out w hSw).1; have s2 := (HQ.out w hSw).2.1; have y0 := (HQ.out w hSw).2.2.1; have y3 := (HQ.out w hSw).2.2.2.1; have y4 := (HQ.out w hSw).2.2.2.2; clear hSw; go_simp) <;> with_reducible rfl)
        (try simp only [Act.put, List.setIfInBounds_toArray, List.set_cons_zero, List.set_cons_succ])
        refine any_take (i := 6) (v := ?_) rfl (by kernel_rfl) (by kernel_rfl) (by kernel_rfl) (by exact fun _ _ _ h => h) (by rfl) ?_ hS ?_
        rotate_left
        · ((intro w hSw; have s1 := (HQ.out w hSw).1; have s2 := (HQ.out w hSw).2.1; have y0 := (HQ.out w hSw).2.2.1; have y3 := (HQ.out w hSw).2.2.2.1; have y4 := (HQ.out w hSw).2.2.2.2; clear hSw; go_simp) <;> with_reducible rfl)
        (try simp only [Act.put, List.setIfInBounds_toArray, List.set_cons_zero, List.set_cons_succ])
        refine any_take (i := 7) (v := ?_) rfl (by kernel_rfl) (by kernel_rfl) (by kernel_rfl) (by exact fun _ _ _ h => h) (by rfl) ?_ hS ?_
        rotate_left
        · ((intro w hSw; have s1 := (HQ.out w hSw).1; have s2 := (HQ.out w hSw).2.1; have y0 := (HQ.out w hSw).2.2.1; have y3 := (HQ.out w hSw).2.2.2.1; have y4 := (HQ.out w hSw).2.2.2.2; clear hSw; go_simp) <;> with_reducible rfl)
        (try simp only [Act.put, List.setIfInBounds_toArray, List.set_cons_zero, List.set_cons_succ])
        refine any_take (i := 8) (v := ?_) rfl (by kernel_rfl) (by kernel_rfl) (by kernel_rfl) (by exact fun _ _ _ h => h) (by rfl) ?_ hS ?_
        rotate_left
        · ((intro w hSw; have s1 := (HQ.out w hSw).1; have s2 := (HQ.out w hSw).2.1; have y0 := (HQ.out w hSw).2.2.1; have y3 := (HQ.out w hSw).2.2.2.1; have y4 := (HQ.out w hSw).2.2.2.2; clear hSw; go_simp) <;> with_reducible rfl)
        (try simp only [Act.put, List.setIfInBounds_toArray, List.set_cons_zero, List.set_cons_succ])
        refine any_take (i := 9) (v := ?_) rfl (by kernel_rfl) (by kernel_rfl) (by kernel_rfl) (by exact fun _ _ _ h => h) (by rfl) ?_ hS ?_
        rotate_left
        · ((intro w hSw; have s1 := (HQ.out w hSw).1; have s2 := (HQ.out w hSw).2.1; have y0 := (HQ.out w hSw).2.2.1; have y3 := (HQ.out w hSw).2.2.2.1; have y4 := (HQ.out w hSw).2.2.2.2; clear hSw; go_simp) <;> with_reducible rfl)
        (try simp only [Act.put, List.setIfInBounds_toArray, List.set_cons_zero, List.set_cons_succ])
        refine any_take (i := 10) (v := ?_) rfl (by kernel_rfl) (by kernel_rfl) (by kernel_rfl) (by exact fun _ _ _ h => h) (by rfl) ?_ hS ?_
        rotate_left
        · ((intro w hSw; have s1 := (HQ.out w hSw).1; have s2 := (HQ.out w hSw).2.1; have y0 := (HQ.out w hSw).2.2.1; have y3 := (HQ.out w hSw).2.2.2.1; have y4 := (HQ.out w hSw).2.2.2.2; clear hSw; go_simp) <;> with_reducible rfl)
        (try simp only [Act.put, List.setIfInBounds_toArray, List.set_cons_zero, List.set_cons_succ])
        refine any_take (i := 11) (v := ?_) rfl (by kernel_rfl) (by kernel_rfl) (by kernel_rfl) (by exact fun _ _ _ h => h) (by rfl) ?_ hS ?_
        rotate_left
        · ((intro w hSw; have s1 := (HQ.out w hSw).1; have s2 := (HQ.out w hSw).2.1; have y0 := (HQ.out w hSw).2.2.1; have y3 := (HQ.out w hSw).2.2.2.1; have y4 := (HQ.out w hSw).2.2.2.2; clear hSw; go_simp) <;> with_reducible rfl)
        (try simp only [Act.put, List.setIfInBounds_toArray, List.set_cons_zero, List.set_cons_succ])
        refine any_take (i := 13) (v := ?_) rfl (by kernel_rfl) (by kernel_rfl) (by kernel_rfl) (by exact fun _ _ _ h => h) (by rfl) ?_ hS ?_
        rotate_left
        · ((intro w hSw; have s1 := (HQ.out w hSw).1; have s2 := (HQ.out w hSw).2.1; have y0 := (HQ.out w hSw).2.2.1; have y3 := (HQ.out w hSw).2.2.2.1; have y4 := (HQ.out w hSw).2.2.2.2; clear hSw; go_simp) <;> with_reducible rfl)
        (try simp only [Act.put, List.setIfInBounds_toArray, List.set_cons_zero, List.set_cons_succ])
        refine any_one (i := 12) rfl (by kernel_rfl) (fun K hK => ?_)
        go_simp
        refine (Calls.mono ((HM1.out _ hS))) ?_
        rintro e x1 ⟨v1, rfl, o1, hbR⟩
        have O1 : Hid (NOwn x1 v1 (mis (m2.ps.map Option.isSome) m2.ps.length)) := o1
        clear o1
        have hS1 := below_then hS hbR
        clear hbR
        go_wp2_with fail
        refine hK.out _ _ (hS1) ?_
        clear hK K hS
        have hS := hS1
        refine any_one (i := 14) rfl (by kernel_rfl) (fun K hK => ?_)
        go_simp
        refine (Calls.mono ((HM2.out _ hS))) ?_
        rintro e x2 ⟨v2, rfl, o2, hbR⟩
        have O2 : Hid (NOwn x2 v1 (mis (m2.ps.map Option.isSome) m2.ps.length) ∧ NOwn x2 v2 (mis (m2.ps.map Option.isSome) m2.ps.length)) := And.intro (NOwn.later O1.out hbR) o2
        clear o2 O1
        have hS2 := below_then hS hbR
        clear hbR
        go_wp2_with fail
        refine hK.out _ _ (hS2) ?_
        clear hK K hS
        have hS := hS2
        refine any_one (i := 15) rfl (by kernel_rfl) (fun K hK => ?_)
        go_simp
        refine (Calls.mono ((same07_yes v1 v2 _ _ O2.out.1 O2.out.2))) ?_
        rintro e x3 ⟨rfl, hbR⟩
        clear O2
        have hS3 := below_then hS hbR
        clear hbR
        go_wp2_with fail
        refine hK.out _ _ (hS3) ?_
        clear hK K hS
        have hS := hS3
        refine any_take (i := 16) (v := ?_) rfl (by kernel_rfl) (by kernel_rfl) (by kernel_rfl) (by exact fun _ _ _ h => h) (by rfl) ?_ hS ?_
        rotate_left
        · ((intro w hSw; have s1 := (HQ.out w hSw).1; have s2 := (HQ.out w hSw).2.1; have y0 := (HQ.out w hSw).2.2.1; have y3 := (HQ.out w hSw).2.2.2.1; have y4 := (HQ.out w hSw).2.2.2.2; clear hSw; go_simp) <;> with_reducible rfl)
        (try simp only [Act.put, List.setIfInBounds_toArray, List.set_cons_zero, List.set_cons_succ])
        refine any_take (i := 17) (v := ?_) rfl (by kernel_rfl) (by kernel_rfl) (by kernel_rfl) (by exact fun _ _ _ h => h) (by rfl) ?_ hS ?_
        rotate_left
        · ((intro w hSw; have s1 := (HQ.out w hSw).1; have s2 := (HQ.out w hSw).2.1; have y0 := (HQ.out w hSw).2.2.1; have y3 := (HQ.out w hSw).2.2.2.1; have y4 := (HQ.out w hSw).2.2.2.2; clear hSw; go_simp) <;> with_reducible rfl)
        (try simp only [Act.put, List.setIfInBounds_toArray, List.set_cons_zero, List.set_cons_succ])
        refine any_take (i := 18) (v := ?_) rfl (by kernel_rfl) (by kernel_rfl) (by kernel_rfl) (by exact fun _ _ _ h => h) (by rfl) ?_ hS ?_
        rotate_left
        · ((intro w hSw; have s1 := (HQ.out w hSw).1; have s2 := (HQ.out w hSw).2.1; have y0 := (HQ.out w hSw).2.2.1; have y3 := (HQ.out w hSw).2.2.2.1; have y4 := (HQ.out w hSw).2.2.2.2; clear hSw; go_simp) <;> with_reducible rfl)
        (try simp only [Act.put, List.setIfInBounds_toArray, List.set_cons_zero, List.set_cons_succ])
        refine any_take (i := 19) (v := ?_) rfl (by kernel_rfl) (by kernel_rfl) (by kernel_rfl) (by exact fun _ _ _ h => h) (by rfl) ?_ hS ?_
        rotate_left
        · ((intro w hSw; have s1 := (HQ.out w hSw).1; have s2 := (HQ.out w hSw).2.1; have y0 := (HQ.out w hSw).2.2.1; have y3 := (HQ.out w hSw).2.2.2.1; have y4 := (HQ.out w hSw).2.2.2.2; clear hSw; go_simp) <;> with_reducible rfl)
        (try simp only [Act.put, List.setIfInBounds_toArray, List.set_cons_zero, List.set_cons_succ])
        refine any_take (i := 21) (v := ?_) rfl (by kernel_rfl) (by kernel_rfl) (by kernel_rfl) (by exact fun _ _ _ h => h) (by rfl) ?_ hS ?_
        rotate_left
        · ((intro w hSw; have s1 := (HQ.out w hSw).1; have s2 := (HQ.out w hSw).2.1; have y0 := (HQ.out w hSw).2.2.1; have y3 := (HQ.out w hSw).2.2.2.1; have y4 := (HQ.out w hSw).2.2.2.2; clear hSw; go_simp) <;> with_reducible rfl)
        (try simp only [Act.put, List.setIfInBounds_toArray, List.set_cons_zero, List.set_cons_succ])
        refine any_take (i := 22) (v := ?_) rfl (by kernel_rfl) (by kernel_rfl) (by kernel_rfl) (by exact fun _ _ _ h => h) (by rfl) ?_ hS ?_
        rotate_left
        · ((intro w hSw; have s1 := (HQ.out w hSw).1; have s2 := (HQ.out w hSw).2.1; have y0 := (HQ.out w hSw).2.2.1; have y3 := (HQ.out w hSw).2.2.2.1; have y4 := (HQ.out w hSw).2.2.2.2; clear hSw; go_simp) <;> with_reducible rfl)
        (try simp only [Act.put, List.setIfInBounds_toArray, List.set_cons_zero, List.set_cons_succ])
        refine any_take (i := 23) (v := ?_) rfl (by kernel_rfl) (by kernel_rfl) (by kernel_rfl) (by exact fun _ _ _ h => h) (by rfl) ?_ hS ?_
        rotate_left
        · ((intro w hSw; have s1 := (HQ.out w hSw).1; have s2 := (HQ.out w hSw).2.1; have y0 := (HQ.out w hSw).2.2.1; have y3 := (HQ.out w hSw).2.2.2.1; have y4 := (HQ.out w hSw).2.2.2.2; clear hSw; go_simp) <;> with_reducible rfl)
        (try simp only [Act.put, List.setIfInBounds_toArray, List.set_cons_zero, List.set_cons_succ])
        refine any_take (i := 24) (v := ?_) rfl (by kernel_rfl) (by kernel_rfl) (by kernel_rfl) (by exact fun _ _ _ h => h) (by rfl) ?_ hS ?_
        rotate_left
        · ((intro w hSw; have s1 := (HQ.out w hSw).1; have s2 := (HQ.out w hSw).2.1; have y0 := (HQ.out w hSw).2.2.1; have y3 := (HQ.out w hSw).2.2.2.1; have y4 := (HQ.out w hSw).2.2.2.2; clear hSw; go_simp) <;> with_reducible rfl)
        (try simp only [Act.put, List.setIfInBounds_toArray, List.set_cons_zero, List.set_cons_succ])
        refine any_one (i := 20) rfl (by kernel_rfl) (fun K hK => ?_)
        go_simp
        refine (Calls.mono ((HM3.out _ hS))) ?_
        rintro e x4 ⟨rfl, hbR⟩
        have hS4 := below_then hS hbR
        clear hbR
        go_wp2_with fail
        refine hK.out _ _ (hS4) ?_
        clear hK K hS
        have hS := hS4
        refine any_take (i := 25) (v := ?_) rfl (by kernel_rfl) (by kernel_rfl) (by kernel_rfl) (by exact fun _ _ _ h => h) (by rfl) ?_ hS ?_
        rotate_left
        · ((intro w hSw; have s1 := (HQ.out w hSw).1; have s2 := (HQ.out w hSw).2.1; have y0 := (HQ.out w hSw).2.2.1; have y3 := (HQ.out w hSw).2.2.2.1; have y4 := (HQ.out w hSw).2.2.2.2; clear hSw; go_simp) <;> with_reducible rfl)
        (try simp only [Act.put, List.setIfInBounds_toArray, List.set_cons_zero, List.set_cons_succ])
        refine any_take (i := 26) (v := ?_) rfl (by kernel_rfl) (by kernel_rfl) (by kernel_rfl) (by exact fun _ _ _ h => h) (by rfl) ?_ hS ?_
        rotate_left
        · ((intro w hSw; have s1 := (HQ.out w hSw).1; have s2 := (HQ.out w hSw).2.1; have y0 := (HQ.out w hSw).2.2.1; have y3 := (HQ.out w hSw).2.2.2.1; have y4 := (HQ.out w hSw).2.2.2.2; clear hSw; go_simp) <;> with_reducible rfl)
        (try simp only [Act.put, List.setIfInBounds_toArray, List.set_cons_zero, List.set_cons_succ])
        refine any_take (i := 27) (v := ?_) rfl (by kernel_rfl) (by kernel_rfl) (by kernel_rfl) (by exact fun _ _ _ h => h) (by rfl) ?_ hS ?_
        rotate_left
        · ((intro w hSw; have s1 := (HQ.out w hSw).1; have s2 := (HQ.out w hSw).2.1; have y0 := (HQ.out w hSw).2.2.1; have y3 := (HQ.out w hSw).2.2.2.1; have y4 := (HQ.out w hSw).2.2.2.2; clear hSw; go_simp) <;> with_reducible rfl)
        (try simp only [Act.put, List.setIfInBounds_toArray, List.set_cons_zero, List.set_cons_succ])
        refine any_take (i := 28) (v := ?_) rfl (by kernel_rfl) (by kernel_rfl) (by kernel_rfl) (by exact fun _ _ _ h => h) (by rfl) ?_ hS ?_
        rotate_left
        · ((intro w hSw; have s1 := (HQ.out w hSw).1; have s2 := (HQ.out w hSw).2.1; have y0 := (HQ.out w hSw).2.2.1; have y3 := (HQ.out w hSw).2.2.2.1; have y4 := (HQ.out w hSw).2.2.2.2; clear hSw; go_simp) <;> with_reducible rfl)
        (try simp only [Act.put, List.setIfInBounds_toArray, List.set_cons_zero, List.set_cons_succ])
        refine any_take (i := 30) (v := ?_) rfl (by kernel_rfl) (by kernel_rfl) (by kernel_rfl) (by exact fun _ _ _ h => h) (by rfl) ?_ hS ?_
        rotate_left
        · ((intro w hSw; have s1 := (HQ.out w hSw).1; have s2 := (HQ.out w hSw).2.1; have y0 := (HQ.out w hSw).2.2.1; have y3 := (HQ.out w hSw).2.2.2.1; have y4 := (HQ.out w hSw).2.2.2.2; clear hSw; go_simp) <;> with_reducible rfl)
        (try simp only [Act.put, List.setIfInBounds_toArray, List.set_cons_zero, List.set_cons_succ])
        refine any_take (i := 31) (v := ?_) rfl (by kernel_rfl) (by kernel_rfl) (by kernel_rfl) (by exact fun _ _ _ h => h) (by rfl) ?_ hS ?_
        rotate_left
        · ((intro w hSw; have s1 := (HQ.out w hSw).1; have s2 := (HQ.out w hSw).2.1; have y0 := (HQ.out w hSw).2.2.1; have y3 := (HQ.out w hSw).2.2.2.1; have y4 := (HQ.out w hSw).2.2.2.2; clear hSw; go_simp) <;> with_reducible rfl)
        (try simp only [Act.put, List.setIfInBounds_toArray, List.set_cons_zero, List.set_cons_succ])
        refine any_take (i := 32) (v := ?_) rfl (by kernel_rfl) (by kernel_rfl) (by kernel_rfl) (by exact fun _ _ _ h => h) (by rfl) ?_ hS ?_
        rotate_left
        · ((intro w hSw; have s1 := (HQ.out w hSw).1; have s2 := (HQ.out w hSw).2.1; have y0 := (HQ.out w hSw).2.2.1; have y3 := (HQ.out w hSw).2.2.2.1; have y4 := (HQ.out w hSw).2.2.2.2; clear hSw; go_simp) <;> with_reducible rfl)
        (try simp only [Act.put, List.setIfInBounds_toArray, List.set_cons_zero, List.set_cons_succ])
        refine any_take (i := 33) (v := ?_) rfl (by kernel_rfl) (by kernel_rfl) (by kernel_rfl) (by exact fun _ _ _ h => h) (by rfl) ?_ hS ?_
        rotate_left
        · ((intro w hSw; have s1 := (HQ.out w hSw).1; have s2 := (HQ.out w hSw).2.1; have y0 := (HQ.out w hSw).2.2.1; have y3 := (HQ.out w hSw).2.2.2.1; have y4 := (HQ.out w hSw).2.2.2.2; clear hSw; go_simp) <;> with_reducible rfl)
        (try simp only [Act.put, List.setIfInBounds_toArray, List.set_cons_zero, List.set_cons_succ])
        refine any_take (i := 34) (v := ?_) rfl (by kernel_rfl) (by kernel_rfl) (by kernel_rfl) (by exact fun _ _ _ h => h) (by rfl) ?_ hS ?_
        rotate_left
        · ((intro w hSw; have s1 := (HQ.out w hSw).1; have s2 := (HQ.out w hSw).2.1; have y0 := (HQ.out w hSw).2.2.1; have y3 := (HQ.out w hSw).2.2.2.1; have y4 := (HQ.out w hSw).2.2.2.2; clear hSw; go_simp) <;> with_reducible rfl)
        (try simp only [Act.put, List.setIfInBounds_toArray, List.set_cons_zero, List.set_cons_succ])
        refine any_one (i := 29) rfl (by kernel_rfl) (fun K hK => ?_)
        go_simp
        refine (Calls.mono ((HM4.out _ hS))) ?_
        rintro e x5 ⟨rfl, hbR⟩
        have hS5 := below_then hS hbR
        clear hbR
        go_wp2_with fail
        refine hK.out _ _ (hS5) ?_
        clear hK K hS
        have hS := hS5
        refine any_take (i := 35) (v := ?_) rfl (by kernel_rfl) (by kernel_rfl) (by kernel_rfl) (by exact fun _ _ _ h => h) (by rfl) ?_ hS ?_
        rotate_left
        · ((intro w hSw; have s1 := (HQ.out w hSw).1; have s2 := (HQ.out w hSw).2.1; have y0 := (HQ.out w hSw).2.2.1; have y3 := (HQ.out w hSw).2.2.2.1; have y4 := (HQ.out w hSw).2.2.2.2; clear hSw; go_simp) <;> with_reducible rfl)
        (try simp only [Act.put, List.setIfInBounds_toArray, List.set_cons_zero, List.set_cons_succ])
        refine any_take (i := 36) (v := ?_) rfl (by kernel_rfl) (by kernel_rfl) (by kernel_rfl) (by exact fun _ _ _ h => h) (by rfl) ?_ hS ?_
        rotate_left
        · ((intro w hSw; have s1 := (HQ.out w hSw).1; have s2 := (HQ.out w hSw).2.1; have y0 := (HQ.out w hSw).2.2.1; have y3 := (HQ.out w hSw).2.2.2.1; have y4 := (HQ.out w hSw).2.2.2.2; clear hSw; go_simp) <;> with_reducible rfl)
        (try simp only [Act.put, List.setIfInBounds_toArray, List.set_cons_zero, List.set_cons_succ])
        refine any_take (i := 37) (v := ?_) rfl (by kernel_rfl) (by kernel_rfl) (by kernel_rfl) (by exact fun _ _ _ h => h) (by rfl) ?_ hS ?_
        rotate_left
        · ((intro w hSw; have s1 := (HQ.out w hSw).1; have s2 := (HQ.out w hSw).2.1; have y0 := (HQ.out w hSw).2.2.1; have y3 := (HQ.out w hSw).2.2.2.1; have y4 := (HQ.out w hSw).2.2.2.2; clear hSw; go_simp) <;> with_reducible rfl)
        (try simp only [Act.put, List.setIfInBounds_toArray, List.set_cons_zero, List.set_cons_succ])
        refine any_take (i := 38) (v := ?_) rfl (by kernel_rfl) (by kernel_rfl) (by kernel_rfl) (by exact fun _ _ _ h => h) (by rfl) ?_ hS ?_
        rotate_left
        · ((intro w hSw; have s1 := (HQ.out w hSw).1; have s2 := (HQ.out w hSw).2.1; have y0 := (HQ.out w hSw).2.2.1; have y3 := (HQ.out w hSw).2.2.2.1; have y4 := (HQ.out w hSw).2.2.2.2; clear hSw; go_simp) <;> with_reducible rfl)
        (try simp only [Act.put, List.setIfInBounds_toArray, List.set_cons_zero, List.set_cons_succ])
        refine any_take (i := 40) (v := ?_) rfl (by kernel_rfl) (by kernel_rfl) (by kernel_rfl) (by exact fun _ _ _ h => h) (by rfl) ?_ hS ?_
        rotate_left
        · ((intro w hSw; have s1 := (HQ.out w hSw).1; have s2 := (HQ.out w hSw).2.1; have y0 := (HQ.out w hSw).2.2.1; have y3 := (HQ.out w hSw).2.2.2.1; have y4 := (HQ.out w hSw).2.2.2.2; clear hSw; go_simp) <;> with_reducible rfl)
        (try simp only [Act.put, List.setIfInBounds_toArray, List.set_cons_zero, List.set_cons_succ])
        refine any_take (i := 41) (v := ?_) rfl (by kernel_rfl) (by kernel_rfl) (by kernel_rfl) (by exact fun _ _ _ h => h) (by rfl) ?_ hS ?_
        rotate_left
        · ((intro w hSw; have s1 := (HQ.out w hSw).1; have s2 := (HQ.out w hSw).2.1; have y0 := (HQ.out w hSw).2.2.1; have y3 := (HQ.out w hSw).2.2.2.1; have y4 := (HQ.out w hSw).2.2.2.2; clear hSw; go_simp) <;> with_reducible rfl)
        (try simp only [Act.put, List.setIfInBounds_toArray, List.set_cons_zero, List.set_cons_succ])
        refine any_take (i := 42) (v := ?_) rfl (by kernel_rfl) (by kernel_rfl) (by kernel_rfl) (by exact fun _ _ _ h => h) (by rfl) ?_ hS ?_
        rotate_left
        · ((intro w hSw; have s1 := (HQ.out w hSw).1; have s2 := (HQ.out w hSw).2.1; have y0 := (HQ.out w hSw).2.2.1; have y3 := (HQ.out w hSw).2.2.2.1; have y4 := (HQ.out w hSw).2.2.2.2; clear hSw; go_simp) <;> with_reducible rfl)
        (try simp only [Act.put, List.setIfInBounds_toArray, List.set_cons_zero, List.set_cons_succ])
        refine any_take (i := 43) (v := ?_) rfl (by kernel_rfl) (by kernel_rfl) (by kernel_rfl) (by exact fun _ _ _ h => h) (by rfl) ?_ hS ?_
        rotate_left
        · ((intro w hSw; have s1 := (HQ.out w hSw).1; have s2 := (HQ.out w hSw).2.1; have y0 := (HQ.out w hSw).2.2.1; have y3 := (HQ.out w hSw).2.2.2.1; have y4 := (HQ.out w hSw).2.2.2.2; clear hSw; go_simp) <;> with_reducible rfl)
        (try simp only [Act.put, List.setIfInBounds_toArray, List.set_cons_zero, List.set_cons_succ])
        refine any_one (i := 39) rfl (by kernel_rfl) (fun K hK => ?_)
        go_simp
        refine (Calls.mono ((HM5.out _ hS))) ?_
        rintro e x6 ⟨rfl, hbR⟩
        have hS6 := below_then hS hbR
        clear hbR
        go_wp2_with fail
        refine hK.out _ _ (hS6) ?_
        clear hK K hS
        have hS := hS6
        refine any_take (i := 44) (v := ?_) rfl (by kernel_rfl) (by kernel_rfl) (by kernel_rfl) (by exact fun _ _ _ h => h) (by rfl) ?_ hS ?_
        rotate_left
        · ((intro w hSw; have s1 := (HQ.out w hSw).1; have s2 := (HQ.out w hSw).2.1; have y0 := (HQ.out w hSw).2.2.1; have y3 := (HQ.out w hSw).2.2.2.1; have y4 := (HQ.out w hSw).2.2.2.2; clear hSw; go_simp) <;> with_reducible rfl)
        (try simp only [Act.put, List.setIfInBounds_toArray, List.set_cons_zero, List.set_cons_succ])
        refine any_take (i := 45) (v := ?_) rfl (by kernel_rfl) (by kernel_rfl) (by kernel_rfl) (by exact fun _ _ _ h => h) (by rfl) ?_ hS ?_
        rotate_left
        · ((intro w hSw; have s1 := (HQ.out w hSw).1; have s2 := (HQ.out w hSw).2.1; have y0 := (HQ.out w hSw).2.2.1; have y3 := (HQ.out w hSw).2.2.2.1; have y4 := (HQ.out w hSw).2.2.2.2; clear hSw; go_simp) <;> with_reducible rfl)
        (try simp only [Act.put, List.setIfInBounds_toArray, List.set_cons_zero, List.set_cons_succ])
        refine wpAnyH_done (by kernel_rfl) ?_ _
        have Z9 := H6.out.1.later hS
        have hb9 := below_then H6.out.2 hS
        have oz := Z9.head.holds
        have N := Spoil_own (.slice za wl.length zc) _ wl _ oz (by omega)
        have H9 : Hid _ := And.intro Z9 (And.intro hb9 oz)
        clear HQ HM1 HM2 HM3 HM4 HM5 Z9 hb9 oz H6 hS
        go_wp2_with fail
        refine N.mono ?_
        rintro r wz ⟨rfl, gz⟩
        clear N
        have s9 := spoiltC (v := .slice za wl.length zc) H9.out.2.2 gz
        have Z := (H9.out.1.step s9).tail.swap
        have hbz := H9.out.2.1.trans (H9.out.1.below s9)
        have F : Hid (AdI w.heap.size w wz g q0 shut (k + 1)) := ⟨p2, q2, m2, hpg, hqg, H4.out.2.2.2.2.2.2.1, H4.out.2.2.2.2.2.2.2.1, H4.out.2.2.1, H4.out.2.2.2.1, H4.out.2.2.2.2.2.2.2.2, Z, hbz⟩
        clear s9 gz Z hbz H9 H4 hpg hqg
        go_wp2
        go_roundw
        case rel => exact ⟨k + 1, by omega, by go_num, F.out⟩
        case measure => simp [intOf]; omega
    · have hst : ¬ (k : Int) < (ls.length : Int) ∨ ((k : Int) < (ls.length : Int) ∧ ¬ (k : Int) < 60) := by omega
      have HB : Hid (Below w.heap.size w wr) := by obtain ⟨p, q, m, -, -, -, -, -, -, -, -, hb⟩ := hI; exact hb
      clear hI HI hlt hk
      rcases hst with hst | ⟨hst0, hst⟩
      all_goals
        go_upto_region 23 with fail
        go_wp2_with fail
        refine (cqWhole_nil wr).mono ?_
        rintro r _ ⟨rfl, rfl⟩
        go_wp2_with fail
        refine (cqAdd_nil _ wr).mono ?_
        rintro r _ ⟨rfl, rfl⟩
        go_wp2_with fail
        refine (lawmiss_nil7 wr).mono ?_
        rintro r v1 ⟨v, rfl, ov, c1⟩
        obtain ⟨va, vc, rfl, -, -, -⟩ := ov.open
        have HB1 : Hid _ := below_then HB.out c1
        clear ov c1 HB
        go_wp2_with fail
        refine (cqId_nil v1).mono ?_
        rintro r v2 ⟨rfl, c2⟩
        have HB2 : Hid _ := below_then HB1.out c2
        clear c2 HB1
        go_wp2_with fail
        refine (cqCount_nil v2).mono ?_
        rintro r v3 ⟨rfl, c3⟩
        have HB3 : Hid _ := below_then HB2.out c3
        clear c3 HB2
        go_wp2_with fail
        refine (cqAdded_nil v3).mono ?_
        rintro r v4 ⟨rfl, c4⟩
        have HB4 : Hid _ := below_then HB3.out c4
        clear c4 HB3
        go_wp2_with fail
        refine (cqClose_nil v4).mono ?_
        rintro r v5 ⟨rfl, c5⟩
        have HB5 : Hid _ := below_then HB4.out c5
        clear c5 HB4
        go_wp2_with fail
        refine (known7_any v5).mono ?_
        rintro r v6 ⟨rfl, c6⟩
        have HB6 : Hid _ := below_then HB5.out c6
        clear c6 HB5
        go_wp2
        go_ret
        exact ⟨rfl, HB6.out⟩

end Go.Proofs.Ytgonglbgejaffaa

