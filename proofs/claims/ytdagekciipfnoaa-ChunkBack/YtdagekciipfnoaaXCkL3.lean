/- The walk of ChunkBack. -/
import Derived.Test.YtdagekciipfnoaaXCk21
import Derived.Test.YtdagekciipfnoaaXLsA
import Derived.Test.YtdagekciipfnoaaXSumC
import Derived.Deep.CutRange
namespace Go.Proofs.Ytdagekciipfnoaa
open Go.RowKit Go.Shelf
set_option linter.unusedVariables false
set_option linter.unusedSimpArgs false
set_option maxRecDepth 4000

/-- what was added in k rounds: bs tells which pieces -/
structure Bk (B : Nat) (w wr : World) (g Q : Nat) (id : Int) (b : List (BitVec 8)) (s N k : Nat) (o : Ob) (bs : List Bool) : Prop where
  ex : ∃ (p : CPl) (m : CR), p.g = g ∧ m.ad = (k : Int) ∧ ((m.id < id ∧ bs = List.replicate N false) ∨ (GI m id b s ∧ th m = bs)) ∧ Sep B [crOb p m, o, blOb Q bs] wr
  len : bs.length = N
  below : Below B w wr
  all : ∀ i, 100 ≤ i → i < k → bs[i % N]? = some true
theorem Bk.done {B : Nat} {w wr : World} {g Q : Nat} {id : Int} {b : List (BitVec 8)} {s N : Nat} {o : Ob} {bs : List Bool} (h : Bk B w wr g Q id b s N 600 o bs) (h1 : 1 ≤ N) (h2 : N ≤ 256) : bs.count false = 0 := by
  rw [List.count_eq_zero]
  intro hm
  obtain ⟨r, hr, e⟩ := List.getElem_of_mem hm
  have hrN : r < N := by rw [← h.len]; exact hr
  have hd1 := Nat.div_add_mod (100 + N - 1) N
  have hd2 := Nat.mod_lt (100 + N - 1) (show N > 0 by omega)
  have hq : r + N * ((100 + N - 1) / N) < 600 := by
    rcases Nat.lt_or_ge N 100 with hN | hN
    · omega
    · have e1 : (100 + N - 1) / N = 1 := Nat.div_eq_of_lt_le (by omega) (by omega)
      rw [e1]; omega
  have := h.all (r + N * ((100 + N - 1) / N)) (by omega) hq
  rw [Nat.add_mul_mod_self_left, Nat.mod_eq_of_lt hrN, List.getElem?_eq_getElem hr, e] at this
  cases this
set_option maxHeartbeats 8000000 in
theorem chunkBack_walk (id : Int) (a : Option Addr) (len cap : Nat) (b : List (BitVec 8)) (size : Int) (ta : Option Addr) (tl tc : Nat) (w : World) (hid : -9223372036854775808 ≤ id ∧ id ≤ 9223372036854775807) (A : Arg 140737488351232 w a len cap b) (hsz : -9223372036854775808 ≤ size ∧ size ≤ 9223372036854775807) (T : NArg w ta tl tc) :
    Calls Try.prog 3 #[.int .i64 id, .slice a len cap, .int .i64 size, .slice ta tl tc] w fun e w' => e = .returned (.bool true) ∧ Below w.heap.size w w' := by
  obtain ⟨rfl, hle, hbd, hr, hnil⟩ := A
  by_cases hok : idB id = true ∧ 1 ≤ size ∧ size ≤ 4096 ∧ b.length ≤ 65536 ∧ npc b.length size.toNat ≤ 256
  · obtain ⟨h1, h2, h3, h4, h5⟩ := hok
    obtain ⟨s, rfl⟩ : ∃ n : Nat, size = n := ⟨size.toNat, by omega⟩
    rw [Int.toNat_natCast] at h5
    have hI : Img id b s := ⟨h1, by omega, by omega, h4, h5⟩
    have HS : Hid _ := split_yes id a cap b s w h1 (by omega) (by omega) h4 h5 hle hr hnil
    have HR : Hid _ := And.intro hr (And.intro T hI)
    have n1 := npc_1 b.length s
    have htl : tl ≤ maxLen := Nat.le_trans T.le T.most
    unfold maxLen at htl
    clear h1 hr hnil T hI
    go_enter Try.func3, Try.ntmps3
    go_wp2_with fail
    refine (Calls.mono HS.out) ?_
    rintro e w1 ⟨D, vs, rfl, hl1, hP1, b1⟩
    have hO : (pcsOb D vs (splL id b s (npc b.length s))).Ok w1 := hP1.ob (by rw [hl1, splL_len])
    have HJ : Hid _ := join_yes id b s D vs w1 HR.out.2.2 hO
    have H2 : Hid _ := And.intro hO b1
    clear HS hP1 hl1 b1 hO
    go_wp2_with fail
    refine (Calls.mono HJ.out) ?_
    rintro e w2 ⟨z, rfl, o2, b2⟩
    obtain ⟨za, zn, zc, rfl, hcv⟩ := own7_strs o2
    have Z2 : Sep w.heap.size [pcsOb D vs (splL id b s (npc b.length s))] w2 := (Sep.nil (w := w)).add (below_then H2.out.2 b2) (H2.out.1.later b2) (fun k hk => by cases hk) (fun k _ p hp => by cases hp)
    have HN : Hid _ := newZ Z2
    have H3 : Hid _ := And.intro (below_then H2.out.2 b2) hcv
    clear HJ H2 b2 o2 Z2 hcv
    go_wp2_with fail
    refine (Calls.mono HN.out) ?_
    rintro e w3 ⟨p, rfl, Z3, b3⟩
    have bb3 := below_then H3.out.1 b3
    have hc1 := H3.out.2 w3 b3
    have hc2 := Row.str (HR.out.1.later bb3) b.length cap rfl
    have hgt : decide (((npc b.length s : Nat) : Int) > 256) = false := decide_eq_false (by omega)
    have hmk := make_bools (npc b.length s) (by omega) w3
    have b4 : Below w3.heap.size w3 (w3.alloc (.cells (madeCells #[.bool false] (npc b.length s)) 4)) := (Below.refl _ _).alloc (Nat.le_refl _) _
    have Bn : Blk (w3.alloc (.cells (madeCells #[.bool false] (npc b.length s)) 4)) w3.heap.size 4 ((List.replicate (npc b.length s) false).map .bool) := by rw [List.map_replicate]; exact made_bools w3 _
    have Z4 := Z3.fresh b4 (blOb_ok Bn) (fun k hk => by rcases hk with hk | hk; simp only [blOb, List.mem_singleton] at hk; omega; cases hk)
    have J : Hid (Bk w.heap.size w (w3.alloc (.cells (madeCells #[.bool false] (npc b.length s)) 4)) p.g w3.heap.size id b s (npc b.length s) 0 (pcsOb D vs (splL id b s (npc b.length s))) (List.replicate (npc b.length s) false)) := ⟨⟨p, ⟨0, 0, [], 0⟩, rfl, rfl, .inl ⟨by have := HR.out.2.2.pos; show (0 : Int) < id; omega, rfl⟩, Z4.perm (List.perm_append_comm (l₁ := [_]) (l₂ := [_, _]))⟩, by simp, below_then bb3 b4, fun i _ h => by omega⟩
    have HI : Hid _ := And.intro HR.out (And.intro n1 h5)
    generalize p.g = g at *
    clear HN Z3 b3 H3 bb3 b4 Bn Z4 HR
    go_wp2_with fail
    clear hc1 hc2 hmk
    generalize w3.alloc (.cells (madeCells #[.bool false] (npc b.length s)) 4) = w4 at *
    generalize w3.heap.size = Q at *
    generalize hN : npc b.length s = N at *
    have HE : Hid _ := And.intro hN trivial
    clear hN
    have hct : ((N : Nat) : Int) = ((List.count false (List.replicate N false) : Nat) : Int) := by simp
    go_loopw [15, 16] (fun lv iv wr => ∃ (k : Nat) (bs : List Bool), iv = .int .i64 k ∧ k ≤ 600 ∧ lv = .int .i64 ((bs.count false : Nat) : Int) ∧ Bk w.heap.size w wr g Q id b s N k (pcsOb D vs (splL id b s N)) bs) (fun _ iv _ => 600 - (intOf iv).toNat)
    case atStart => exact ⟨0, _, rfl, by omega, by rw [hct], J.out⟩
    case round =>
      clear J hct
      obtain ⟨k, bs, rfl, hk, rfl, K⟩ := hrel
      by_cases h0 : bs.count false = 0
      · have HK : Hid _ := known7_any wr
        have H4 : Hid _ := K.below
        clear K
        rw [h0]
        go_wp2_with fail
        refine (Calls.mono HK.out) ?_
        rintro e w9 ⟨rfl, b9⟩
        have FF : Hid _ := below_then H4.out b9
        clear HK b9 H4
        go_wp2
        go_ret
        exact ⟨rfl, FF.out⟩
      · have hk6 : k < 600 := by
          rcases Nat.lt_or_ge k 600 with h | h
          · exact h
          · obtain rfl : k = 600 := by omega
            exact absurd (K.done n1 h5) h0
        have q0 : (((bs.count false : Nat) : Int) > 0) := by omega
        have q1 : (k : Int) < 600 := by omega
        have HK : Hid _ := And.intro K h0
        have qm : ¬ ((N : Nat) : Int) = 0 := by omega
        clear K h0
        generalize hC : bs.count false = C at *
        have HC0 : Hid _ := And.intro hC trivial
        clear hC
        have HM : Hid ((k : Int).tmod ((N : Nat) : Int) = ((k % N : Nat) : Int)) := by rw [Int.tmod_eq_emod_of_nonneg (by omega)]; exact (Int.natCast_emod k N).symm
        go_upto_region 14 with fail
        go_cut [78] from 59 to 128 (fun cv wx => cv = .bool (decide (k < tl ∧ k < 100)) ∧ wx = wr)
        case first =>
          by_cases t1 : (k : Int) < (tl : Int)
          · by_cases t2 : (k : Int) < 100
            · go_wp2
              go_meet
              exact ⟨congrArg Value.bool (decide_eq_true (p := k < tl ∧ k < 100) (by omega)).symm, rfl⟩
            · go_wp2
              go_meet
              exact ⟨congrArg Value.bool (decide_eq_false (p := k < tl ∧ k < 100) (by omega)).symm, rfl⟩
          · go_wp2
            go_meet
            exact ⟨congrArg Value.bool (decide_eq_false (p := k < tl ∧ k < 100) (by omega)).symm, rfl⟩
        case rest =>
        obtain ⟨rfl, hwc⟩ := hcut
        obtain rfl := hwc.symm
        clear hwc
        go_upto_if 78 with fail
        go_cut [17] from 59 to 128 (fun qv wx => ∃ q : Nat, qv = .int .i64 q ∧ q < N ∧ (100 ≤ k → q = k % N) ∧ wx = wr)
        case first =>
          by_cases ht : k < tl ∧ k < 100
          · rw [decide_eq_true ht]
            obtain ⟨tb, tof, rfl, hcell⟩ := HI.out.1.2.1.each (by omega)
            obtain ⟨zt, ct, hzt⟩ := hcell k ht.1
            have ct' := cell_later7 HK.out.1.below ct
            have HC : Hid _ := ct_any zt N wr hzt (by omega) (by omega)
            have q5 : (k : Int) < (tl : Int) := by omega
            clear ct hcell
            go_wp2_with fail
            refine (Calls.mono HC.out) ?_
            rintro e _ ⟨q, rfl, hq, rfl⟩
            go_wp2
            go_meet
            exact ⟨q, rfl, hq, fun h => by omega, rfl⟩
          · rw [decide_eq_false ht]
            go_wp2
            go_meet
            exact ⟨k % N, by go_num, Nat.mod_lt _ (by omega), fun _ => rfl, rfl⟩
        case rest =>
        obtain ⟨q, rfl, hq, hqm, hwc⟩ := hcut
        obtain rfl := hwc.symm
        clear hwc
        obtain ⟨p, m, hg, had, hin, Z⟩ := HK.out.1.ex
        obtain rfl := HE.out.1.symm
        have hlen := HK.out.1.len
        have hqb : q < bs.length := by rw [hlen]; exact hq
        obtain ⟨u, hu, c1, ho⟩ := pcs_at (Z.each _ (List.mem_cons_of_mem _ (List.mem_cons_self ..))) q hq
        obtain ⟨qa, qn, qc, rfl⟩ := own_slice ho
        have HA : Hid _ := addZ HI.out.1.2.2 Z q hq _ hu (hin.imp And.left And.left) (by rw [had]; omega)
        rw [hg] at HA
        have hGI : GI (addP m id b s q) id b s := addP_GI (hin.imp And.left And.left) q
        have hth : th (addP m id b s q) = bs.set q true := by
          rcases hin with ⟨h1, h2⟩ | ⟨h1, h2⟩
          · rw [addP_th0 h1 q hq, h2]
          · rw [addP_th h1 q hq, h2]
        have had5 : (addP m id b s q).ad = ((k + 1 : Nat) : Int) := by rw [addP_ad, had]; omega
        have HQ : Hid _ := And.intro hGI (And.intro hth (And.intro had5 (And.intro HK.out.1.below (And.intro hqm HK.out.1.all))))
        have q6 : (q : Int) < ((npc b.length s : Nat) : Int) := by omega
        clear Z ho hu hin had hGI hth had5 hqm HK HM hg
        go_wp2_with fail
        clear c1
        refine (Calls.mono HA.out) ?_
        rintro e w5 ⟨rfl, p5, g5, Z5, b5⟩
        have hBq : Blk w5 Q 4 (bs.map .bool) := (Z5.each _ (List.mem_cons_of_mem _ (List.mem_cons_of_mem _ (List.mem_cons_self ..)))).holds
        have cq := blk_at hBq q
        rw [List.getElem?_map, List.getElem?_eq_getElem hqb] at cq
        have fq := blk_frozen hBq q
        simp only [Option.map_some] at cq
        have S5 := (Z5.third).step (blOb_set (Z5.third).head q true)
        have B5 := (Z5.third).below (blOb_set (Z5.third).head q true)
        have hcs := count_set bs q hqb
        have hcp := count_pos bs q hqb
        have hset : bs[q] = true → bs.set q true = bs := fun h => by rw [← h]; exact List.set_getElem_self hqb
        have H5 : Hid _ := And.intro Z5 (And.intro (S5.perm (List.perm_append_comm (l₁ := [_]) (l₂ := [_, _]))) (And.intro (HQ.out.2.2.2.1.trans b5) (And.intro B5 (And.intro hcs (And.intro hcp (And.intro hset g5))))))
        clear HA Z5 b5 hBq S5 B5 hcs hcp hset g5
        have hC0 := HC0.out.1
        generalize bs[q] = bq at *
        go_upto_if 97 with fail
        go_cut [15] from 59 to 128 (fun lv wx => lv = .int .i64 (((bs.set q true).count false : Nat) : Int) ∧ Sep w.heap.size [crOb p5 (addP m id b s q), pcsOb D vs (splL id b s (npc b.length s)), blOb Q (bs.set q true)] wx ∧ Below w.heap.size w wx)
        case first =>
          cases bq with
          | true =>
            have e1 := H5.out.2.2.2.2.1
            rw [if_pos rfl] at e1
            have e3 := H5.out.2.2.2.2.2.2.1 rfl
            have HF : Hid _ := And.intro (show ((C : Nat) : Int) = (((bs.set q true).count false : Nat) : Int) by rw [e1, hC0]) (And.intro (show Sep w.heap.size [crOb p5 (addP m id b s q), pcsOb D vs (splL id b s (npc b.length s)), blOb Q (bs.set q true)] w5 by rw [e3]; exact H5.out.1) H5.out.2.2.1)
            clear H5 e1 e3 hC0
            go_wp2
            go_meet
            exact ⟨by rw [HF.out.1], HF.out.2.1, HF.out.2.2⟩
          | false =>
            have e1 := H5.out.2.2.2.2.1
            rw [if_neg (by decide)] at e1
            have e2 := H5.out.2.2.2.2.2.1 rfl
            have e5 := List.count_le_length (a := false) (l := bs)
            rw [hlen] at e5
            rw [hC0] at e1 e2 e5
            have e4 : ((C : Nat) : Int) - 1 = (((bs.set q true).count false : Nat) : Int) := by rw [e1]; omega
            have HF : Hid _ := And.intro e4 (And.intro H5.out.2.1 (H5.out.2.2.1.trans H5.out.2.2.2.1))
            have e6 : ((C : Nat) : Int) ≤ 256 := by omega
            clear H5 e1 hC0 e2 e4
            go_wp2
            go_meet
            exact ⟨by rw [HF.out.1], HF.out.2.1, HF.out.2.2⟩
        case rest =>
        obtain ⟨rfl, Z6, b6⟩ := hcut
        have g5 := H5.out.2.2.2.2.2.2.2
        have HW : Hid _ := wholeW HI.out.1.2.2 Z6 HQ.out.1
        rw [HQ.out.2.1, g5] at HW
        have hlen2 : (bs.set q true).length = npc b.length s := by rw [List.length_set]; exact hlen
        have hall : ∀ i, 100 ≤ i → i < k + 1 → (bs.set q true)[i % npc b.length s]? = some true := fun i h1 h2 => by
          by_cases e : q = i % npc b.length s
          · rw [← e, List.getElem?_set_self hqb]
          · rw [List.getElem?_set_ne e]
            refine HQ.out.2.2.2.2.2 i h1 ?_
            rcases Nat.lt_or_ge i k with h | h
            · exact h
            · exact absurd (by rw [show i = k by omega]; exact HQ.out.2.2.2.2.1 (by omega)) e
        have H6 : Hid _ := And.intro Z6 (And.intro b6 (And.intro HQ.out.1 (And.intro HQ.out.2.1 (And.intro HQ.out.2.2.1 (And.intro hlen2 (And.intro hall g5))))))
        have hCn : (((bs.set q true).count false : Nat) : Int) ≤ 256 := by
          have := List.count_le_length (a := false) (l := bs.set q true); rw [hlen2] at this; omega
        clear Z6 b6 H5 HQ hlen2 hall g5 cq fq hC0 HC0 hqb hlen
        generalize bs.set q true = bs' at *
        generalize addP m id b s q = m' at *
        generalize hC' : bs'.count false = C' at *
        go_wp2_with fail
        refine (Calls.mono HW.out) ?_
        rintro e w7 ⟨xa, xn, xc, rfl, hcv, b7⟩
        have bb7 := below_then H6.out.2.1 b7
        have Z7 := H6.out.1.later b7
        have HL : Hid _ := lawmiss_any p5 m' w7 Z7.head (by rw [H6.out.2.2.1.len]; omega) (by rw [H6.out.2.2.1.len]; exact h5)
        have hml : (mis (m'.ps.map Option.isSome) m'.ps.length).length = C' := by
          have := mis_count (th m')
          rw [th_len, H6.out.2.2.2.1, hC'] at this
          rw [← this, ← H6.out.2.2.2.1]; rfl
        rw [H6.out.2.2.2.2.2.2.2] at HL
        have hc2 := Row.str (HI.out.1.1.later bb7) b.length cap rfl
        have H7 : Hid _ := And.intro Z7 (And.intro bb7 (And.intro H6.out.2.2 hC'))
        have hcc : (((C' : Nat) : Int) != ((C' : Nat) : Int)) = false := by rw [bne_eq_false_iff_eq]
        clear HW H6 Z7 bb7 hC'
        have HV := hcv
        clear hcv
        by_cases hz : C' = 0
        · have hcx := HV hz w7 (Below.refl _ _)
          have hz2 : (((C' : Nat) : Int) == 0) = true := by rw [beq_iff_eq]; omega
          have hdz : decide (C' = 0) = true := decide_eq_true hz
          clear HV b7 hz
          rw [hdz]
          go_wp2_with fail
          clear hcx hc2
          refine (Calls.mono HL.out) ?_
          rintro e w8 ⟨v, rfl, hv, -, b8⟩
          obtain ⟨va, vc, rfl, -, -, -⟩ := hv.open
          rw [hml]
          have R : Hid (Bk w.heap.size w w8 g Q id b s (npc b.length s) (k + 1) (pcsOb D vs (splL id b s (npc b.length s))) bs') := ⟨⟨p5, m', H7.out.2.2.1.2.2.2.2.2, H7.out.2.2.1.2.2.1, .inr ⟨H7.out.2.2.1.1, H7.out.2.2.1.2.1⟩, H7.out.1.later b8⟩, H7.out.2.2.1.2.2.2.1, below_then H7.out.2.1 b8, H7.out.2.2.1.2.2.2.2.1⟩
          have RC : Hid _ := H7.out.2.2.2
          clear HL H7 b8 hv hml
          go_wp2
          go_roundw
          case rel => exact ⟨k + 1, bs', by go_num, by omega, by rw [RC.out], R.out⟩
          case measure => simp [intOf]; omega
        · have hz2 : (((C' : Nat) : Int) == 0) = false := by rw [beq_eq_false_iff_ne]; omega
          have hdz : decide (C' = 0) = false := decide_eq_false hz
          clear HV b7 hz
          rw [hdz]
          go_wp2_with fail
          clear hc2
          refine (Calls.mono HL.out) ?_
          rintro e w8 ⟨v, rfl, hv, -, b8⟩
          obtain ⟨va, vc, rfl, -, -, -⟩ := hv.open
          rw [hml]
          have R : Hid (Bk w.heap.size w w8 g Q id b s (npc b.length s) (k + 1) (pcsOb D vs (splL id b s (npc b.length s))) bs') := ⟨⟨p5, m', H7.out.2.2.1.2.2.2.2.2, H7.out.2.2.1.2.2.1, .inr ⟨H7.out.2.2.1.1, H7.out.2.2.1.2.1⟩, H7.out.1.later b8⟩, H7.out.2.2.1.2.2.2.1, below_then H7.out.2.1 b8, H7.out.2.2.1.2.2.2.2.1⟩
          have RC : Hid _ := H7.out.2.2.2
          clear HL H7 b8 hv hml
          go_wp2
          go_roundw
          case rel => exact ⟨k + 1, bs', by go_num, by omega, by rw [RC.out], R.out⟩
          case measure => simp [intOf]; omega
  · have HS : Hid _ := split_no id a cap b size w hok
    have HK : Hid _ := known7_any w
    clear hok hr hnil T
    go_enter Try.func3, Try.ntmps3
    go_wp2_with fail
    refine (Calls.mono HS.out) ?_
    rintro e w1 ⟨E, rfl, hE, rfl⟩
    clear HS
    have hE2 : (E != 0) = true := by rw [bne, hE]; rfl
    have hE3 : ¬ E = 0 := fun h => by rw [h] at hE; cases hE
    go_wp2_with fail
    refine (Calls.mono HK.out) ?_
    rintro e w2 ⟨rfl, b2⟩
    have FF : Hid _ := And.intro b2 trivial
    clear HK b2
    go_wp2
    go_ret
    exact ⟨rfl, FF.out.1⟩
end Go.Proofs.Ytdagekciipfnoaa

