/- The walk of ChunkNewer. -/
import Derived.Test.YtdagekciipfnoaaXCk20
namespace Go.Proofs.Ytdagekciipfnoaa
open Go.RowKit Go.Shelf
set_option linter.unusedVariables false
set_option linter.unusedSimpArgs false
set_option maxRecDepth 4000

theorem split_all (id : Int) (a : Option Addr) (cap : Nat) (b : List (BitVec 8)) (size : Int) (w : World) (hc : b.length ≤ cap) (hr : Row w a b) (hnil : a = none → cap = 0) :
    Calls Try.prog 7 #[.int .i64 id, .slice a b.length cap, .int .i64 size] w fun e w' => ∃ x n c E, e = .returned (.tuple #[.slice x n c, .int .i64 E]) ∧ Below w.heap.size w w' := by
  by_cases h : idB id = true ∧ 1 ≤ size ∧ size ≤ 4096 ∧ b.length ≤ 65536 ∧ npc b.length size.toNat ≤ 256
  · obtain ⟨h1, h2, h3, h4, h5⟩ := h
    obtain ⟨s, rfl⟩ : ∃ n : Nat, size = n := ⟨size.toNat, by omega⟩
    rw [Int.toNat_natCast] at h5
    refine (split_yes id a cap b s w h1 (by omega) (by omega) h4 h5 hc hr hnil).mono ?_
    rintro e w' ⟨D, vs, rfl, -, -, hb⟩
    exact ⟨_, _, _, _, rfl, hb⟩
  · refine (split_no id a cap b size w h).mono ?_
    rintro e w' ⟨E, rfl, -, rfl⟩
    exact ⟨_, _, _, _, rfl, Below.refl _ _⟩
def Nw (B : Nat) (w wr : World) (g : Nat) (id : Int) (b : List (BitVec 8)) (s N0 k : Nat) (o1 o2 : Ob) : Prop := ∃ (p : CPl) (m : CR), p.g = g ∧ m.ad = ((N0 + k : Nat) : Int) ∧ ((k = 0 ∧ m.id < id) ∨ (GI m id b s ∧ Fst m k)) ∧ Sep B [crOb p m, o1, o2] wr ∧ Below B w wr
set_option maxHeartbeats 8000000 in
theorem chunkNewer_walk (a : Int) (xa : Option Addr) (xl xc : Nat) (x : List (BitVec 8)) (b : Int) (ya : Option Addr) (yl yc : Nat) (y : List (BitVec 8)) (size : Int) (w : World) (ha : -9223372036854775808 ≤ a ∧ a ≤ 9223372036854775807) (A : Arg 140737488351232 w xa xl xc x) (hb : -9223372036854775808 ≤ b ∧ b ≤ 9223372036854775807) (A2 : Arg 140737488351232 w ya yl yc y) (hsz : -9223372036854775808 ≤ size ∧ size ≤ 9223372036854775807) :
    Calls Try.prog 5 #[.int .i64 a, .slice xa xl xc, .int .i64 b, .slice ya yl yc, .int .i64 size] w fun e w' => e = .returned (.bool true) ∧ Below w.heap.size w w' := by
  obtain ⟨rfl, xle, xbd, xr, xnil⟩ := A
  obtain ⟨rfl, yle, ybd, yr, ynil⟩ := A2
  by_cases hok : idB a = true ∧ 1 ≤ size ∧ size ≤ 4096 ∧ x.length ≤ 65536 ∧ npc x.length size.toNat ≤ 256
  · obtain ⟨h1, h2, h3, h4, h5⟩ := hok
    obtain ⟨s, rfl⟩ : ∃ n : Nat, size = n := ⟨size.toNat, by omega⟩
    rw [Int.toNat_natCast] at h5
    have I1 : Img a x s := ⟨h1, by omega, by omega, h4, h5⟩
    have HS : Hid _ := split_yes a xa xc x s w h1 (by omega) (by omega) h4 h5 xle xr xnil
    have HR : Hid _ := And.intro yr ynil
    have H1 : Hid _ := And.intro I1 trivial
    clear h1 xr xnil yr ynil I1
    go_enter Try.func5, Try.ntmps5
    go_wp2_with fail
    refine (Calls.mono HS.out) ?_
    rintro e w1 ⟨D1, vs1, rfl, hl1, hP1, b1⟩
    by_cases hok2 : idB b = true ∧ 1 ≤ (s : Int) ∧ (s : Int) ≤ 4096 ∧ y.length ≤ 65536 ∧ npc y.length (s : Int).toNat ≤ 256
    · obtain ⟨k1, k2, k3, k4, k5⟩ := hok2
      rw [Int.toNat_natCast] at k5
      have I2 : Img b y s := ⟨k1, by omega, by omega, k4, k5⟩
      have HT : Hid _ := split_yes b ya yc y s w1 k1 (by omega) (by omega) k4 k5 yle (HR.out.1.later b1) HR.out.2
      have H2 : Hid _ := And.intro hP1 (And.intro b1 (And.intro hl1 I2))
      have n1 := npc_1 x.length s
      have n2 := npc_1 y.length s
      clear HS k1 hP1 b1 I2 hl1
      go_wp2_with fail
      refine (Calls.mono HT.out) ?_
      rintro e w2 ⟨D2, vs2, rfl, hl2, hP2, b2⟩
      by_cases hab : a ≥ b
      · have bb := below_then H2.out.2.1 b2
        clear HT H2 HR H1 hP2 b2 hl2
        have r1 : decide (a ≥ b) = true := decide_eq_true hab
        have HK : Hid _ := known7_any w2
        go_wp2_with fail
        refine (Calls.mono HK.out) ?_
        rintro e w9 ⟨rfl, b9⟩
        have FF : Hid _ := below_then bb b9
        clear HK b9
        go_wp2
        go_ret
        exact ⟨rfl, FF.out⟩
      · have hab' : decide (a ≥ b) = false := decide_eq_false hab
        have hlt : a < b := by omega
        have bb := below_then H2.out.2.1 b2
        have Z1 : Sep w.heap.size [pcsOb D1 vs1 (splL a x s (npc x.length s))] w1 := (Sep.nil (w := w)).add H2.out.2.1 (H2.out.1.ob (by rw [H2.out.2.2.1, splL_len])) (fun k hk => by cases hk) (fun k _ p hp => by cases hp)
        have Z2 : Sep w.heap.size [pcsOb D2 vs2 (splL b y s (npc y.length s)), pcsOb D1 vs1 (splL a x s (npc x.length s))] w2 := Z1.add b2 (hP2.ob (by rw [hl2, splL_len])) (fun k hk => by cases hk) (fun k _ p hp => by
          simp only [List.mem_singleton] at hp; subst hp; exact fun h => by cases h)
        have HN : Hid _ := newZ Z2
        have H3 : Hid _ := And.intro bb (And.intro H1.out.1 (And.intro H2.out.2.2.2 HR.out))
        clear HT H2 H1 HR hP2 b2 hl2 Z1 Z2 bb
        have hn1 : ¬ ((npc x.length s : Nat) : Int) = 0 := by omega
        have hn2 : ¬ ((npc y.length s : Nat) : Int) = 0 := by omega
        have hn3 : (((npc x.length s : Nat) : Int) == 0) = false := by rw [beq_eq_false_iff_ne]; omega
        have hn4 : (((npc y.length s : Nat) : Int) == 0) = false := by rw [beq_eq_false_iff_ne]; omega
        generalize hN1 : npc x.length s = N1 at *
        generalize hN2 : npc y.length s = N2 at *
        have HE : Hid _ := And.intro hN1 hN2
        clear hN1 hN2
        go_wp2_with fail
        refine (Calls.mono HN.out) ?_
        rintro e w3 ⟨p, rfl, Z3, b3⟩
        have J : Hid (Nw w.heap.size w w3 p.g a x s 0 0 (pcsOb D1 vs1 (splL a x s N1)) (pcsOb D2 vs2 (splL b y s N2))) := ⟨p, ⟨0, 0, [], 0⟩, rfl, rfl, .inl ⟨rfl, by have := H3.out.2.1.pos; show (0 : Int) < a; omega⟩, Z3.perm (List.Perm.cons _ (List.Perm.swap _ _ _)), below_then H3.out.1 b3⟩
        have HI : Hid _ := H3.out.2
        generalize p.g = g at *
        clear HN Z3 b3 H3
        go_wp2_with fail
        go_loopw [16] (fun iv wr => ∃ k : Nat, iv = .int .i64 k ∧ k ≤ N1 ∧ Nw w.heap.size w wr g a x s 0 k (pcsOb D1 vs1 (splL a x s N1)) (pcsOb D2 vs2 (splL b y s N2))) (fun iv _ => N1 - (intOf iv).toNat)
        case atStart => exact ⟨0, rfl, by omega, J.out⟩
        case round =>
          clear J
          obtain ⟨k, rfl, hk, p, m, hg, had, hin, Z, hB⟩ := hrel
          obtain ⟨hN1, hN2⟩ := HE.out
          by_cases hlt1 : k < N1
          · subst hN1
            subst hN2
            obtain ⟨u, hu, c1, ho⟩ := pcs_at (Z.each _ (List.mem_cons_of_mem _ (List.mem_cons_self ..))) k hlt1
            obtain ⟨qa, qn, qc, rfl⟩ := own_slice ho
            have HA : Hid _ := addZ HI.out.1 Z k hlt1 _ hu (hin.imp And.right And.left) (by have := HI.out.1.n; rw [had]; omega)
            rw [hg] at HA
            have HQ : Hid _ := And.intro hB (And.intro (Fst.succ hin hlt1) had)
            have q1 : (k : Int) < ((npc x.length s : Nat) : Int) := by omega
            have hn := HI.out.1.n
            clear Z ho hu hin hB had
            go_wp2_with fail
            clear c1
            refine (Calls.mono HA.out) ?_
            rintro e w4 ⟨rfl, p4, g4, Z4, b4⟩
            have J2 : Hid (Nw w.heap.size w w4 g a x s 0 (k + 1) (pcsOb D1 vs1 (splL a x s (npc x.length s))) (pcsOb D2 vs2 (splL b y s (npc y.length s)))) := ⟨p4, _, g4, by rw [addP_ad, HQ.out.2.2]; omega, .inr HQ.out.2.1, Z4, HQ.out.1.trans b4⟩
            clear HA HQ Z4 b4 g4 hg
            go_wp2
            go_roundw
            case rel => exact ⟨k + 1, by go_num, by omega, J2.out⟩
            case measure => simp [intOf]; omega
          · obtain rfl : k = N1 := by omega
            obtain ⟨hG, -⟩ := hin.resolve_left (fun h => by omega)
            have J : Hid (Nw w.heap.size w wr g b y s k 0 (pcsOb D2 vs2 (splL b y s N2)) (pcsOb D1 vs1 (splL a x s k))) := ⟨p, m, hg, had.trans (by simp), .inl ⟨rfl, by rw [hG.id]; exact hlt⟩, Z.perm (List.Perm.cons _ (List.Perm.swap _ _ _)), hB⟩
            clear Z hB hg had hin hG hlt1
            go_wp2_with fail
            go_loopw [17] (fun iv wr => ∃ j : Nat, iv = .int .i64 j ∧ j ≤ N2 ∧ Nw w.heap.size w wr g b y s k j (pcsOb D2 vs2 (splL b y s N2)) (pcsOb D1 vs1 (splL a x s k))) (fun iv _ => N2 - (intOf iv).toNat)
            case atStart => exact ⟨0, rfl, by omega, J.out⟩
            case round =>
              clear J
              obtain ⟨j, rfl, hj, p, m, hg, had, hin, Z, hB⟩ := hrel
              by_cases hlt2 : j < N2
              · subst hN1
                subst hN2
                obtain ⟨u, hu, c1, ho⟩ := pcs_at (Z.each _ (List.mem_cons_of_mem _ (List.mem_cons_self ..))) j hlt2
                obtain ⟨qa, qn, qc, rfl⟩ := own_slice ho
                have HA : Hid _ := addZ HI.out.2.1 Z j hlt2 _ hu (hin.imp And.right And.left) (by have := HI.out.2.1.n; have := HI.out.1.n; rw [had]; omega)
                rw [hg] at HA
                have HQ : Hid _ := And.intro hB (And.intro (Fst.succ hin hlt2) (And.intro had hg))
                have q1 : (j : Int) < ((npc y.length s : Nat) : Int) := by omega
                have hn := HI.out.2.1.n
                clear Z ho hu hin hB had hg
                go_wp2_with fail
                clear c1
                refine (Calls.mono HA.out) ?_
                rintro e w4 ⟨rfl, p4, g4, Z4, b4⟩
                have bb4 := HQ.out.1.trans b4
                obtain ⟨u0, hu0, c0, ho0⟩ := pcs_at (Z4.each _ (List.mem_cons_of_mem _ (List.mem_cons_of_mem _ (List.mem_cons_self ..)))) 0 (by omega)
                obtain ⟨ra, rn, rc, rfl⟩ := own_slice ho0
                have hid : (addP m b y s j).id = b := HQ.out.2.1.1.id
                have HO : Hid _ := addOld_any p4 _ a x s 0 0 _ w4 HI.out.1 (by omega) ho0 Z4.head (by rw [hid]; exact hlt)
                rw [g4] at HO
                have H4 : Hid _ := And.intro Z4 (And.intro bb4 g4)
                have q2 : (0 : Int) < ((npc x.length s : Nat) : Int) := by omega
                clear HA Z4 b4 ho0 hu0 bb4 g4
                go_wp2_with fail
                clear c0
                refine (Calls.mono HO.out) ?_
                rintro e w5 ⟨rfl, b5⟩
                have HD : Hid _ := crId_any p4 _ w5 (H4.out.1.later b5).head
                rw [hid, H4.out.2.2] at HD
                have J2 : Hid (Nw w.heap.size w w5 g b y s (npc x.length s) (j + 1) (pcsOb D2 vs2 (splL b y s (npc y.length s))) (pcsOb D1 vs1 (splL a x s (npc x.length s)))) := ⟨p4, _, H4.out.2.2, by rw [addP_ad, HQ.out.2.2.1]; omega, .inr HQ.out.2.1, H4.out.1.later b5, below_then H4.out.2.1 b5⟩
                have hbb : (b != b) = false := by rw [bne_eq_false_iff_eq]
                clear HO b5 H4 HQ hid
                go_wp2_with fail
                refine (Calls.mono HD.out) ?_
                rintro e _ ⟨rfl, rfl⟩
                clear HD
                go_wp2
                go_roundw
                case rel => exact ⟨j + 1, by go_num, by omega, J2.out⟩
                case measure => simp [intOf]; omega
              · obtain rfl : j = N2 := by omega
                obtain ⟨hG, hF⟩ := hin.resolve_left (fun h => by omega)
                subst hN1
                subst hN2
                have HW : Hid _ := wholeZ HI.out.2.1 Z hG hF
                rw [hg] at HW
                have H4 : Hid _ := And.intro hB trivial
                clear Z hB hg had hin hG hF hlt2
                go_wp2_with fail
                refine (Calls.mono HW.out) ?_
                rintro e w8 ⟨z, rfl, o8, b8⟩
                obtain ⟨za, zn, zc, rfl, hcv⟩ := own7_strs o8
                have bb8 := below_then H4.out.1 b8
                have hcy := fun X (hX : Below w8.heap.size w8 X) => Row.str (HI.out.2.2.1.later (below_then bb8 hX)) y.length yc rfl
                have HK : Hid _ := known7_any w8
                have H5 : Hid _ := And.intro bb8 trivial
                have hcv8 := hcv w8 (Below.refl _ _)
                have hcy8 := hcy w8 (Below.refl _ _)
                clear hcv hcy HW H4 o8 b8 bb8
                go_wp2_with fail
                refine (Calls.mono HK.out) ?_
                rintro e w9 ⟨rfl, b9⟩
                have FF : Hid _ := below_then H5.out.1 b9
                clear HK b9 H5
                go_wp2
                go_ret
                exact ⟨rfl, FF.out⟩
    · have HT : Hid _ := split_no b ya yc y s w1 hok2
      have H2 : Hid _ := And.intro b1 trivial
      clear HS hP1 b1 hl1 H1 HR hok2
      go_wp2_with fail
      refine (Calls.mono HT.out) ?_
      rintro e w2 ⟨E, rfl, hE, rfl⟩
      clear HT
      have bb := H2.out.1
      have hE2 : (E != 0) = true := by rw [bne, hE]; rfl
      have hE3 : ¬ E = 0 := fun h => by rw [h] at hE; cases hE
      have HK : Hid _ := known7_any w2
      go_wp2_with fail
      refine (Calls.mono HK.out) ?_
      rintro e w9 ⟨rfl, b9⟩
      have FF : Hid _ := below_then bb b9
      clear HK b9
      go_wp2
      go_ret
      exact ⟨rfl, FF.out⟩
  · have HS : Hid _ := split_no a xa xc x size w hok
    have HT : Hid _ := split_all b ya yc y size w yle yr ynil
    clear hok xr xnil yr ynil
    go_enter Try.func5, Try.ntmps5
    go_wp2_with fail
    refine (Calls.mono HS.out) ?_
    rintro e w1 ⟨E, rfl, hE, rfl⟩
    clear HS
    have hE2 : (E != 0) = true := by rw [bne, hE]; rfl
    have hE3 : ¬ E = 0 := fun h => by rw [h] at hE; cases hE
    go_wp2_with fail
    refine (Calls.mono HT.out) ?_
    rintro e w2 ⟨va, vn, vc, E2, rfl, bb⟩
    clear HT
    have HK : Hid _ := known7_any w2
    go_wp2_with fail
    refine (Calls.mono HK.out) ?_
    rintro e w9 ⟨rfl, b9⟩
    have FF : Hid _ := below_then bb b9
    clear HK b9
    go_wp2
    go_ret
    exact ⟨rfl, FF.out⟩
end Go.Proofs.Ytdagekciipfnoaa

