/- The walk of the law on reads one behind the other. -/
import Derived.Test.YtkajedabcedifacFieldQ4
import Derived.Test.YtkajedabcedifacFieldOps
namespace Go.Proofs.Ytkajedabcedifac
open Go.RowKit

theorem Spoil_lent {w : World} {base g c len : Nat} {l : List (BitVec 8)} (ho : Own w base (.slice (some ⟨g, 0, none⟩) (len + 1) c) l) (hlen : len ≤ 140737488351232) (hc : len + 1 ≤ c) :
    Calls Try.prog 6 #[.slice (some ⟨g, 0, none⟩) len c] w fun e w' => e = .returned (.tuple #[]) ∧ w.grownBy w' (some g) := by
  obtain ⟨h1, h2 | ⟨g', cap, cur, hv, hb, hh, hc', hm, hs, ht⟩⟩ := ho
  · simp at h2
  · simp only [Value.slice.injEq, Option.some.injEq, Addr.mk.injEq] at hv
    obtain ⟨⟨rfl, _, _⟩, _, rfl⟩ := hv
    exact Spoil_some g 0 len c 5 cur.toList w (by unfold Blk; simpa using hh) (by simp; omega) (by simp; omega) (by omega) hlen

theorem cell_later {w w' : World} {x : Addr} {v : Value} (h : w.cell? x = some v) (hb : Below w.heap.size w w') : w'.cell? x = some v := by
  have hx : x.block < w.heap.size := by
    rcases Nat.lt_or_ge x.block w.heap.size with h1 | h1
    · exact h1
    · unfold World.cell? at h
      rw [Array.getElem?_eq_none h1] at h
      simp at h
  rw [World.cell?_of_block (w := w) (hb.block _ hx)]
  exact h
theorem OpAt.later {w w' : World} {b off : Nat} {k s n : Int} {p : Value} (h : OpAt w b off k s n p) (hb : Below w.heap.size w w') : OpAt w' b off k s n p :=
  ⟨cell_later h.kind hb, cell_later h.size hb, cell_later h.num hb, cell_later h.part hb, h.kinds, h.sizes, h.nums⟩

theorem op_cells {W : World} {go T : Nat} {x p : Value} {S N : Int} (h : Blk W go T [x, .int .i64 S, .int .i64 N, p]) : W.cell? ⟨go, 1, none⟩ = some (.int .i64 S) ∧ W.cell? ⟨go, 2, none⟩ = some (.int .i64 N) :=
  ⟨h.cell (by simp [maxLen]) 1 (by simp), h.cell (by simp [maxLen]) 2 (by simp)⟩
theorem Blk.drew {W : World} {g T : Nat} {xs : List Value} (h : Blk W g T xs) : Blk W.drew g T xs := h
theorem Rd.drew {w : World} {F : List Nat} {g T : Nat} {L : List (BitVec 8)} {E : Int} (h : Rd w F g T L E) : Rd w.drew F g T L E := h.later (Below.refl _ _).drew

theorem rdBytes_len (L : List (BitVec 8)) (E size : Int) : (rdBytes L E size).2.2.length ≤ 65536 := by
  unfold rdBytes
  split
  · split
    · rename_i h
      obtain ⟨s, n, rfl, hs, hn, hn6, hsn, hN⟩ := cutE_0 h
      simp only [hN, Int.toNat_natCast, List.length_take, List.length_drop]
      omega
    · simp
  · simp
theorem Rd.mores {w : World} {F : List Nat} {g T : Nat} {L : List (BitVec 8)} {E : Int} (h : Rd w F g T L E) (F' : List Nat) (hF : ∀ k ∈ F', w.heap.size ≤ k) : Rd w (F' ++ F) g T L E := by
  obtain ⟨a, len, cap, l, h⟩ := h
  exact ⟨a, len, cap, l, h.mores F' hF⟩

set_option maxRecDepth 20000 in
set_option maxHeartbeats 4000000 in
theorem fieldReads_walk (a : Option Addr) (len cap : Nat) (l : List (BitVec 8)) (oa : Option Addr) (olen ocap : Nat) (w : World) (A : Arg 140737488351232 w a len cap l) (O : Ops (fun u => ∃ ap lp cp, u = .slice ap lp cp) w oa olen ocap) :
    Calls Try.prog 3 #[.slice a len cap, .slice oa olen ocap] w fun e w' => e = .returned (.bool true) ∧ Below w.heap.size w w' := by
  obtain ⟨hl, hle, hbd, hr, hn⟩ := id A
  go_enter Try.func3, Try.ntmps3
  go_wp2_with fail
  refine (Lent_any a len cap l w A).mono ?_
  rintro e w1 ⟨g0, c0, rfl, ho1, hg0, hc0, hm0, hb1⟩
  have hr1 : Row w1 (some ⟨g0, 0, none⟩) (l ++ [167#8]) := by
    obtain ⟨a1, cap1, hv1, _, _, hr1, _, _⟩ := ho1.open
    simp only [Value.slice.injEq] at hv1
    rw [hv1.1]; exact hr1
  have hr1' : Row w1 (some ⟨g0, 0, none⟩) l := by have := hr1.takes len; rwa [List.take_left' hl] at this
  go_wp2_with fail
  refine (NewReader_any (some ⟨g0, 0, none⟩) len c0 l w1 hl (by omega) hr1' (fun e => by cases e) (by omega)).mono ?_
  rintro e w2 ⟨gr, rfl, hgr, hR2, hb2⟩
  go_wp2_with fail
  have ho2 := ho1.later hb2
  refine (Spoil_lent ho2 (by omega) (by omega)).mono ?_
  rintro e w3 ⟨rfl, hg3⟩
  have hlt0 : g0 < w1.heap.size := (World.ownsRow.lt ho1 g0 rfl).2
  have hR3 := (hR2 [g0] (by simpa using hlt0)).keep hg3 (fun k hk => by cases hk; exact ⟨by omega, .inl (by simp)⟩)
  have hb3 : Below w.heap.size w w3 := (hb1.trans (hb2.mono hb1.size)).trans (grown_below hg3 _ hg0 (Nat.le_trans hb1.size hb2.size))
  have hr3 := hr.later hb3
  go_wp2_with fail
  refine (Of_any a len cap l w3 hl hle hr3 hn (by omega)).mono ?_
  rintro e w4 ⟨gq, rfl, hgq, hQ4, hb4⟩
  have hrw : gr < w3.heap.size := hR3.blt
  have hqw : gq < w4.heap.size := (hQ4 [] (by simp)).blt
  have hR4 : Rd w4 [gq] gr 45 l 0 := ((hR3.more gq hgq).later hb4).less (by simp)
  have hQ4' : Rd w4 [gr] gq 47 l 0 := hQ4 [gr] (by simpa using hrw)
  have hb4' : Below w.heap.size w w4 := hb3.trans (hb4.mono hb3.size)
  have hwr : w.heap.size ≤ gr := Nat.le_trans hb1.size hgr
  have hwq : w.heap.size ≤ gq := Nat.le_trans hb3.size hgq
  have hrq : gr ≠ gq := by omega
  clear hR2 hR3 hQ4 hg3 ho1 ho2 hr1 hr1' hb1 hb2 hb3 hb4 hr3 hlt0 hrw hqw
  go_wp2_with fail
  go_loopw [8] (fun i wr => ∃ (k : Nat) (L : List (BitVec 8)) (E : Int), k ≤ olen ∧ k ≤ 60 ∧ i = .int .i64 k ∧ Rd wr [gq] gr 45 L E ∧ Rd wr [gr] gq 47 L E ∧ Below w.heap.size w wr) (fun i _ => 60 - (intOf i).toNat)
  case atStart => exact ⟨0, l, 0, by omega, by omega, rfl, hR4, hQ4', hb4'⟩
  case round =>
    obtain ⟨k, L, E, hk1, hk2, rfl, hR, hQ, hbr⟩ := hrel
    by_cases hlt : k < olen ∧ k < 60
    · obtain ⟨b, off, rfl, hop⟩ := O.each (by omega)
      obtain ⟨K, S, N, P, hO, pa, pl, pc, rfl⟩ := hop k hlt.1
      have hOr := hO.later hbr
      have o0 := hOr.kind
      have o1 := hOr.size
      have o2 := hOr.num
      have o3 := hOr.part
      obtain ⟨t1, t2⟩ := hlt
      have bO : Below wr.heap.size wr (wr.alloc (.cells #[.int .i64 K, .int .i64 S, .int .i64 N, .slice pa pl pc] 31)) := (Below.refl _ _).alloc (Nat.le_refl _) _
      have BO := Blk.new wr 31 [.int .i64 K, .int .i64 S, .int .i64 N, .slice pa pl pc]
      have HO : Hid _ := And.intro bO (And.intro BO (And.intro hR (And.intro hQ (And.intro hbr (And.intro hR.blt hQ.blt)))))
      clear bO BO hR hQ hbr hOr hO
      by_cases hK4 : K = 4
      · subst hK4
        go_wp2_with fail
        obtain ⟨bO, BO, hR, hQ, hbr, hgr', hgq'⟩ := HO.out
        have hsz : wr.heap.size < (wr.alloc (.cells #[.int .i64 4, .int .i64 S, .int .i64 N, .slice pa pl pc] 31)).heap.size := BO.lt
        generalize wr.alloc (.cells #[.int .i64 4, .int .i64 S, .int .i64 N, .slice pa pl pc] 31) = Wo at *
        have hRo := hR.later bO
        have hQo := hQ.later bO
        have hbo := hbr.trans (bO.mono hbr.size)
        clear HO hR hQ hbr bO o0 o1 o2 o3
        generalize wr.heap.size = go at *
        refine (Bytes_any [gq] gr L E S Wo hRo).mono ?_
        rintro e w5 ⟨v, rfl, ho5, hR5, hg5⟩
        have hpl := rdBytes_len L E S
        have hbk : ∀ k, v.ownBlock = some k → Wo.heap.size ≤ k := own_block ho5
        have hbl : ∀ k, v.ownBlock = some k → k < w5.heap.size := fun k hk => (World.ownsRow.lt ho5 k hk).2
        have hQ5 := ((hQo.mores v.ownBlock.toList (fun k hk => hbk k (by simpa using hk))).keep hg5 (fun k hk => by cases hk; exact ⟨hrq, .inl (by simp)⟩)).drew
        have BO5 := BO.grown hg5 (by simp; omega)
        have hF5 : ∀ k ∈ v.ownBlock.toList ++ [gr], k < w5.drew.heap.size := by
          intro k hk
          rcases List.mem_append.1 hk with h1 | h1
          · exact hbl k (by simpa using h1)
          · simp at h1; subst h1; exact hR5.blt
        obtain ⟨a5, cap5, hv5, hle5, hm5, hr5, hn5, hg5'⟩ := ho5.open
        have hna : ∀ x, a5 = some x → Wo.heap.size ≤ x.block := fun x hx => hbk x.block (by rw [hv5, hx]; rfl)
        have hb5 : Below w.heap.size w w5 := hbo.trans (grown_below hg5 _ hwr hbo.size)
        generalize hz : rdBytes L E S = z at *
        have S0 : w5.drew.cell? ⟨go, 1, none⟩ = some (.int .i64 S) ∧ Row w5.drew a5 z.2.2 := ⟨(op_cells BO5).1, hr5.later (Below.refl _ _).drew⟩
        have hcD := fun (W : World) (h : W.cell? ⟨go, 1, none⟩ = some (.int .i64 S) ∧ Row W a5 z.2.2) => h.2.str z.2.2.length cap5 rfl
        subst hv5
        have K5 : Hid _ := And.intro ho5 (And.intro hR5 (And.intro hg5 (And.intro BO5 (And.intro hQ5 (And.intro hb5 (And.intro hr5 hna))))))
        clear ho5 hR5 hg5 BO5 hQ5 hb5 hr5 hna hRo hQo hbo BO hg5'
        go_wp2_with fail
        go_region_held_law (fun W => W.cell? ⟨go, 1, none⟩ = some (.int .i64 S) ∧ Row W a5 z.2.2) (first | exact S0 | assumption)
          (first | (go_at_call 9; refine (rBytes_any ((Value.slice a5 z.2.2.length cap5).ownBlock.toList ++ [gr]) gq L E S _ K5.out.2.2.2.2.1 hF5).mono ?_; rw [hz]; rintro e w6 ⟨v6, rfl, ho6, hQ6, hg6⟩; obtain ⟨a6, cap6, rfl, hle6, hm6, hr6, hn6, hg6'⟩ := ho6.open; have hc6 := hr6.str z.2.2.length cap6 rfl; have S6 : w6.cell? ⟨go, 1, none⟩ = some (.int .i64 S) ∧ Row w6 a5 z.2.2 := ⟨(op_cells (K5.out.2.2.2.1.drew.grown hg6 (by simp; omega))).1, S0.2.keep hg6 (fun x hx e => by have := K5.out.2.2.2.2.2.2.2 x hx; have e' : x.block = gq := (by simpa using e); omega)⟩))
        all_goals
          have hR6 := (K5.out.2.1.drew).keep hg6 (fun k hk => by cases hk; exact ⟨fun e => hrq e.symm, .inl (by simp)⟩)
          have ho56 := (K5.out.1.later (Below.refl _ _).drew).keep hg6 (fun k hk e => by have := hbk k hk; have e' : k = gq := (by simpa using e); omega)
          have hb6 : Below w.heap.size w w6 := (K5.out.2.2.2.2.2.1.drew).trans (grown_below hg6 _ hwq K5.out.2.2.2.2.2.1.size)
          clear hcD S6 hc6 hr6 ho6 S0 hg6' hg6 K5
          go_wp2_with fail
          refine (Spoil_own (.slice a5 z.2.2.length cap5) Wo.heap.size z.2.2 w6 ho56 (by omega)).mono ?_
          rintro e w7 ⟨rfl, hg7⟩
          have hR7 := (hR6.keep hg7 (fun k hk => ⟨by have := hbk k hk; omega, .inl (by simp [hk])⟩)).less (F' := [gq]) (by simp)
          have hQ7 := (hQ6.keep hg7 (fun k hk => ⟨by have := hbk k hk; omega, .inl (by simp [hk])⟩)).less (F' := [gr]) (by simp)
          have hb7 : Below w.heap.size w w7 := hb6.grown hg7 hb6.size (fun k hk => by have := hbk k hk; omega)
          have F6 : Hid _ := And.intro hR7 (And.intro hQ7 hb7)
          clear hR7 hQ7 hb7 hg7 hb6 ho56 hR6 hQ6 hbk hbl hF5
          go_wp2_with (first
            | (go_at_call 14; refine (End_any [gq] gr _ _ _ F6.out.1).mono ?_; rintro e w' ⟨rfl, rfl⟩)
            | (go_at_call 15; refine (rEnd_any [gr] gq _ _ _ F6.out.2.1).mono ?_; rintro e w' ⟨rfl, rfl⟩))
          go_roundw
          case rel => exact ⟨k + 1, _, _, by omega, by omega, by go_num, F6.out.1, F6.out.2.1, F6.out.2.2⟩
          case measure => simp [intOf]; omega
      have hK4' : (K == 4) = false := by simpa using hK4
      by_cases hK5 : K = 5
      · subst hK5
        go_wp2_with fail
        obtain ⟨bO, BO, hR, hQ, hbr, hgr', hgq'⟩ := HO.out
        generalize wr.alloc (.cells #[.int .i64 5, .int .i64 S, .int .i64 N, .slice pa pl pc] 31) = Wo at *
        have hRo := (hR.later bO).drew
        have hQo := (hQ.later bO).drew
        have hbo := (hbr.trans (bO.mono hbr.size)).drew
        have BO' := BO.drew
        have S0 := op_cells BO'
        clear HO hR hQ hbr BO bO o0 o1 o2 o3
        generalize wr.heap.size = go at *
        go_region_held_law (fun W => W.cell? ⟨go, 1, none⟩ = some (.int .i64 S) ∧ W.cell? ⟨go, 2, none⟩ = some (.int .i64 N)) (first | exact S0 | assumption)
          (first
            | (go_at_call 10; refine (Count_any [gq] gr L E S N _ hRo).mono ?_; rintro e w5 ⟨rfl, hR5, hg5⟩; have hQ5 := hQo.keep hg5 (fun k hk => by cases hk; exact ⟨hrq, .inl (by simp)⟩); have BO5 := BO'.grown hg5 (by simp; omega); have S5 := op_cells BO5)
            | (go_at_call 11; refine (rCount_any [gr] gq L E S N _ hQ5).mono ?_; rintro e w6 ⟨rfl, hQ6, hg6⟩; have hR6 := hR5.keep hg6 (fun k hk => by cases hk; exact ⟨fun e => hrq e.symm, .inl (by simp)⟩); have BO6 := BO5.grown hg6 (by simp; omega); have S6 := op_cells BO6))
        have hb6 : Below w.heap.size w w6 := (hbo.trans (grown_below hg5 _ hwr hbo.size)).trans (grown_below hg6 _ hwq (Nat.le_trans hbo.size hg5.size))
        generalize rdCount L E S N = z at *
        have F6 : Hid _ := And.intro hR6 (And.intro hQ6 hb6)
        clear BO6 hb6 hg5 hg6 hR5 hQ5 hR6 hQ6 hRo hQo hbo BO' BO5 S0 S5 S6
        go_wp2_with (first
          | (go_at_call 14; refine (End_any [gq] gr _ _ _ F6.out.1).mono ?_; rintro e w' ⟨rfl, rfl⟩)
          | (go_at_call 15; refine (rEnd_any [gr] gq _ _ _ F6.out.2.1).mono ?_; rintro e w' ⟨rfl, rfl⟩))
        go_roundw
        case rel => exact ⟨k + 1, _, _, by omega, by omega, by go_num, F6.out.1, F6.out.2.1, F6.out.2.2⟩
        case measure => simp [intOf]; omega
      · have hK5' : (K == 5) = false := by simpa using hK5
        go_wp2_with fail
        obtain ⟨bO, BO, hR, hQ, hbr, hgr', hgq'⟩ := HO.out
        generalize wr.alloc (.cells #[.int .i64 K, .int .i64 S, .int .i64 N, .slice pa pl pc] 31) = Wo at *
        have hRo := (hR.later bO).drew
        have hQo := (hQ.later bO).drew
        have hbo := (hbr.trans (bO.mono hbr.size)).drew
        have BO' := BO.drew
        have S0 := op_cells BO'
        clear HO hR hQ hbr BO bO o0 o1 o2 o3
        generalize wr.heap.size = go at *
        go_region_held_law (fun W => W.cell? ⟨go, 1, none⟩ = some (.int .i64 S) ∧ W.cell? ⟨go, 2, none⟩ = some (.int .i64 N)) (first | exact S0 | assumption)
          (first
            | (go_at_call 12; refine (Num_any [gq] gr L E S _ hRo).mono ?_; rintro e w5 ⟨rfl, hR5, hg5⟩; have hQ5 := hQo.keep hg5 (fun k hk => by cases hk; exact ⟨hrq, .inl (by simp)⟩); have BO5 := BO'.grown hg5 (by simp; omega); have S5 := op_cells BO5)
            | (go_at_call 13; refine (rNum_any [gr] gq L E S _ hQ5).mono ?_; rintro e w6 ⟨rfl, hQ6, hg6⟩; have hR6 := hR5.keep hg6 (fun k hk => by cases hk; exact ⟨fun e => hrq e.symm, .inl (by simp)⟩); have BO6 := BO5.grown hg6 (by simp; omega); have S6 := op_cells BO6))
        have hb6 : Below w.heap.size w w6 := (hbo.trans (grown_below hg5 _ hwr hbo.size)).trans (grown_below hg6 _ hwq (Nat.le_trans hbo.size hg5.size))
        generalize rdNum L E S = z at *
        have F6 : Hid _ := And.intro hR6 (And.intro hQ6 hb6)
        clear BO6 hb6 hg5 hg6 hR5 hQ5 hR6 hQ6 hRo hQo hbo BO' BO5 S0 S5 S6
        go_wp2_with (first
          | (go_at_call 14; refine (End_any [gq] gr _ _ _ F6.out.1).mono ?_; rintro e w' ⟨rfl, rfl⟩)
          | (go_at_call 15; refine (rEnd_any [gr] gq _ _ _ F6.out.2.1).mono ?_; rintro e w' ⟨rfl, rfl⟩))
        go_roundw
        case rel => exact ⟨k + 1, _, _, by omega, by omega, by go_num, F6.out.1, F6.out.2.1, F6.out.2.2⟩
        case measure => simp [intOf]; omega
    · have hx : ¬ ((k : Int) < (olen : Int)) ∨ ¬ ((k : Int) < 60) := by omega
      have F0 : Hid _ := hbr
      clear hR hQ hbr hR4 hQ4' hb4' hr A O
      rcases hx with hx | hx
      · go_wp2_with (first
          | (go_at_call 16; refine (wNum_nil _ _ _).mono ?_; rintro e w' ⟨rfl, rfl⟩)
          | (go_at_call 17; refine (wBytes_nil _ _).mono ?_; rintro e w' ⟨rfl, rfl⟩)
          | (go_at_call 18; refine (wEnd_nil _).mono ?_; rintro e w' ⟨rfl, rfl⟩)
          | (go_at_call 12; refine (Num_nil _ _).mono ?_; rintro e w' ⟨rfl, rfl⟩)
          | (go_at_call 8; refine (Bytes_nil _ _).mono ?_; rintro e w' ⟨rfl, rfl⟩)
          | (go_at_call 10; refine (Count_nil _ _ _).mono ?_; rintro e w' ⟨rfl, rfl⟩)
          | (go_at_call 14; refine (End_nil _).mono ?_; rintro e w' ⟨rfl, rfl⟩)
          | (go_at_call 19; refine (known2_any _).mono ?_; rintro e w' ⟨rfl, hbk⟩))
        all_goals
          go_ret
          exact ⟨rfl, below_then F0.out hbk⟩
      · go_wp2_with (first
          | (go_at_call 16; refine (wNum_nil _ _ _).mono ?_; rintro e w' ⟨rfl, rfl⟩)
          | (go_at_call 17; refine (wBytes_nil _ _).mono ?_; rintro e w' ⟨rfl, rfl⟩)
          | (go_at_call 18; refine (wEnd_nil _).mono ?_; rintro e w' ⟨rfl, rfl⟩)
          | (go_at_call 12; refine (Num_nil _ _).mono ?_; rintro e w' ⟨rfl, rfl⟩)
          | (go_at_call 8; refine (Bytes_nil _ _).mono ?_; rintro e w' ⟨rfl, rfl⟩)
          | (go_at_call 10; refine (Count_nil _ _ _).mono ?_; rintro e w' ⟨rfl, rfl⟩)
          | (go_at_call 14; refine (End_nil _).mono ?_; rintro e w' ⟨rfl, rfl⟩)
          | (go_at_call 19; refine (known2_any _).mono ?_; rintro e w' ⟨rfl, hbk⟩))
        all_goals
          go_ret
          exact ⟨rfl, below_then F0.out hbk⟩
end Go.Proofs.Ytkajedabcedifac
