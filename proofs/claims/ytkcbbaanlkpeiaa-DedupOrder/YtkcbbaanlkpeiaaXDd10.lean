/- What a command is, where its answer is kept. -/
import Derived.Test.YtkcbbaanlkpeiaaXDd6
import Derived.Lib.ConvBytes
namespace Go.Proofs.Ytkcbbaanlkpeiaa
open Go.RowKit
set_option linter.unusedVariables false
set_option linter.unusedSimpArgs false
set_option maxRecDepth 4000

theorem below_drew1 (B : Nat) (w : World) : Below B w w.drew := (Below.refl B w).drew
/-- a string's bytes as a new row -/
theorem dbytes_of_str (w : World) (l : List (BitVec 8)) : ∃ c w', (convert 9 22 (.string (str l))).run Try.prog w = .ok (.slice (some ⟨w.heap.size, 0, none⟩) l.length c) w' ∧ l.length ≤ c ∧ w'.heap.size = w.heap.size + 1 ∧ Row w' (some ⟨w.heap.size, 0, none⟩) l ∧ Below w.heap.size w w' := by
  have hd : (str l).data.toList = l.map (fun c : BitVec 8 => UInt8.ofNat c.toNat) := by
    unfold str; rw [strOfNums_data, List.map_map]; exact List.map_congr_left (fun c _ => rfl)
  have hsz : (str l).size = l.length := by
    have := congrArg List.length hd
    rw [List.length_map, Array.length_toList] at this
    exact this
  have hrun := Lib.run_convert_string_bytes (P := Try.prog) w 9 22 5 (str l) Try.underlying9 Try.underlying22 Try.underlying5
  rw [hsz] at hrun
  refine ⟨_, _, hrun, grownCap_ge _ _ _ _, Lib.bytesWorld_size _ _ _, .inr ⟨_, 0, rfl, fun i hi => ?_⟩, ⟨rfl, rfl, rfl, by rw [Lib.bytesWorld_size]; omega, fun k hk => Lib.bytesWorld_at_old w _ _ k hk⟩⟩
  rw [Nat.zero_add, Lib.bytesWorld_cell w _ _ i (by rw [hsz]; exact hi), hd]
  unfold bt
  rw [List.getD, List.getD, List.getElem?_map, List.getElem?_eq_getElem hi]
  simp only [Option.map_some, Option.getD_some, UInt8.toNat_ofNat']
  rw [Nat.mod_eq_of_lt (l[i]).isLt]
set_option maxHeartbeats 2000000 in
theorem check_done (g q : Nat) (n fl : Int) (v : Value) (l : List An) (bs : List (BitVec 8)) (w : World) (hq : q < 16) (hc : canP q n = true) (hM : MemAt w g q fl v l) (hf : fromOf l n = ((q : Int), n, str bs)) (hbs : bs.length ≤ 140737488351232) :
    Calls Try.prog 18 #[.pointer (some ⟨g, 0, none⟩), .int .i64 q, .int .i64 n] w fun e w' => ∃ x c, e = .returned (.tuple #[.int .i64 1, .agg #[.int .i64 (grR bs).1, .int .i64 (grR bs).2.1, .int .i64 (grR bs).2.2.1, .int .i64 (grR bs).2.2.2.1, .slice x (grR bs).2.2.2.2.length c]]) ∧ Own w' w.heap.size (.slice x (grR bs).2.2.2.2.length c) (grR bs).2.2.2.2 ∧ Below w.heap.size w w' := by
  have b1 : Below w.heap.size w (w.alloc (.cells #[.int .i64 0, .int .i64 0, .int .i64 0, .int .i64 0, .slice none 0 0] 38)) := (Below.refl _ _).alloc (Nat.le_refl _) _
  have B1 := Blk.new' w 38 [.int .i64 0, .int .i64 0, .int .i64 0, .int .i64 0, .slice none 0 0]
  have b2 : Below (w.alloc (.cells #[.int .i64 0, .int .i64 0, .int .i64 0, .int .i64 0, .slice none 0 0] 38)).heap.size (w.alloc (.cells #[.int .i64 0, .int .i64 0, .int .i64 0, .int .i64 0, .slice none 0 0] 38)) ((w.alloc (.cells #[.int .i64 0, .int .i64 0, .int .i64 0, .int .i64 0, .slice none 0 0] 38)).alloc (.cells #[.int .i64 q, .int .i64 n] 88)) := (Below.refl _ _).alloc (Nat.le_refl _) _
  have A2 := Blk.new' (w.alloc (.cells #[.int .i64 0, .int .i64 0, .int .i64 0, .int .i64 0, .slice none 0 0] 38)) 88 [.int .i64 q, .int .i64 n]
  rw [show (w.alloc (.cells #[.int .i64 0, .int .i64 0, .int .i64 0, .int .i64 0, .slice none 0 0] 38)).heap.size = w.heap.size + 1 by simp] at A2
  have B2 := B1.laterB b2
  have bb := below_then b1 b2
  have a0 := blk_at A2 0
  have a1 := blk_at A2 1
  simp only [List.getElem?_cons_zero, List.getElem?_cons_succ] at a0 a1
  have H2 : Hid _ := And.intro bb (And.intro B2 (And.intro A2 (hM.later bb)))
  clear b1 B1 b2 A2 B2 bb hM
  have HN : Hid _ := canBe_any q n ((w.alloc (.cells #[.int .i64 0, .int .i64 0, .int .i64 0, .int .i64 0, .slice none 0 0] 38)).alloc (.cells #[.int .i64 q, .int .i64 n] 88))
  rw [hc] at HN
  clear hc
  have q1 : (q : Int) < 16 := by omega
  go_enter Try.func18, Try.ntmps18
  go_wp2_with fail
  generalize ((w.alloc (.cells #[.int .i64 0, .int .i64 0, .int .i64 0, .int .i64 0, .slice none 0 0] 38)).alloc (.cells #[.int .i64 q, .int .i64 n] 88)) = W2 at *
  clear a0 a1
  refine (Calls.mono HN.out) ?_
  rintro r W3 ⟨rfl, b3⟩
  have H3 : Hid (Below w.heap.size w W3 ∧ Blk W3 w.heap.size 38 [.int .i64 0, .int .i64 0, .int .i64 0, .int .i64 0, .slice none 0 0] ∧ Blk W3 (w.heap.size + 1) 88 [.int .i64 q, .int .i64 n] ∧ MemAt W3 g q fl v l) := ⟨below_then H2.out.1 b3, H2.out.2.1.laterB b3, H2.out.2.2.1.laterB b3, H2.out.2.2.2.later b3⟩
  clear H2 HN b3
  have N4 : Hid _ := ddfrom_any g (q * 2 + 1) v l n W3 H3.out.2.2.2.list H3.out.2.2.2.own H3.out.2.2.2.rise H3.out.2.2.2.len
  rw [hf] at N4
  clear hf
  simp only at N4
  go_wp2_with fail
  refine (Calls.mono N4.out) ?_
  rintro r W4 ⟨rfl, b4⟩
  have b5 : Below W4.heap.size W4 (W4.alloc (.cells #[.int .i64 q, .int .i64 n, .string (str bs)] 90)) := (Below.refl _ _).alloc (Nat.le_refl _) _
  have A5 := Blk.new' W4 90 [.int .i64 q, .int .i64 n, .string (str bs)]
  have b45 := below_then b4 b5
  obtain ⟨c6, W6, hrun, hc6, s6, r6, b6⟩ := dbytes_of_str (W4.alloc (.cells #[.int .i64 q, .int .i64 n, .string (str bs)] 90)) bs
  have hs5 : (W4.alloc (.cells #[.int .i64 q, .int .i64 n, .string (str bs)] 90)).heap.size = W4.heap.size + 1 := by simp
  rw [hs5] at hrun r6
  have H5 : Hid (Below w.heap.size w (W4.alloc (.cells #[.int .i64 q, .int .i64 n, .string (str bs)] 90)) ∧ Blk (W4.alloc (.cells #[.int .i64 q, .int .i64 n, .string (str bs)] 90)) w.heap.size 38 [.int .i64 0, .int .i64 0, .int .i64 0, .int .i64 0, .slice none 0 0] ∧ Blk (W4.alloc (.cells #[.int .i64 q, .int .i64 n, .string (str bs)] 90)) (w.heap.size + 1) 88 [.int .i64 q, .int .i64 n]) := ⟨below_then H3.out.1 b45, H3.out.2.1.laterB b45, H3.out.2.2.1.laterB b45⟩
  have H6 : Hid (Below w.heap.size w W6 ∧ Blk W6 w.heap.size 38 [.int .i64 0, .int .i64 0, .int .i64 0, .int .i64 0, .slice none 0 0]) := ⟨below_then H5.out.1 b6, H5.out.2.1.laterB b6⟩
  have N7 : Hid _ := getReply_any (some ⟨W4.heap.size + 1, 0, none⟩) bs.length c6 bs W6 rfl hc6 r6 (fun e => by cases e) hbs
  have x0 := blk_at A5 0
  have x1 := blk_at A5 1
  have x2 := blk_at A5 2
  have p0 := blk_at H5.out.2.2 0
  have p1 := blk_at H5.out.2.2 1
  simp only [List.getElem?_cons_zero, List.getElem?_cons_succ] at x0 x1 x2 p0 p1
  clear H3 N4 b4 b5 A5 b45 hc6 s6 r6 b6 hs5 H5
  go_wp2_with fail
  clear x0 x1 x2 p0 p1 hrun
  obtain ⟨rr, hrr⟩ : ∃ r, r = grR bs := ⟨_, rfl⟩
  have HQ : Hid (rr = grR bs) := hrr
  rw [← hrr] at N7
  clear hrr
  obtain ⟨K1, K2, K3, K4, C⟩ := rr
  simp only at N7
  refine (Calls.mono N7.out) ?_
  rintro r W7 ⟨x, c, rfl, o7, b7⟩
  have b8 : Below W7.heap.size W7 (W7.alloc (.cells #[.int .i64 K1, .int .i64 K2, .int .i64 K3, .int .i64 K4, .slice x C.length c] 38)) := (Below.refl _ _).alloc (Nat.le_refl _) _
  have A8 := Blk.new' W7 38 [.int .i64 K1, .int .i64 K2, .int .i64 K3, .int .i64 K4, .slice x C.length c]
  have b78 := below_then b7 b8
  have B8 := H6.out.2.laterB b78
  have bw := below_then H6.out.1 b78
  have S := set5_below B8 rfl (.int .i64 K1) (.int .i64 K2) (.int .i64 K3) (.int .i64 K4) (.slice x C.length c) w.heap.size w bw (Nat.le_refl _) bw.size
  have o9 := ((o7.later b8).keep S.2.1 (fun k hk e => by
    have h1 := (World.ownsRow.lt o7 k hk).1
    have h2 := H6.out.2.lt
    injection e with e
    omega)).lower H6.out.1.size
  have G : Hid _ := And.intro S.1 (And.intro S.2.2 o9)
  have y0 := blk_at B8 0
  have f0 := B8.frozen (by simp [maxLen]) 0
  have z0 := blk_at A8 0
  have y1 := blk_at B8 1
  have f1 := B8.frozen (by simp [maxLen]) 1
  have z1 := blk_at A8 1
  have y2 := blk_at B8 2
  have f2 := B8.frozen (by simp [maxLen]) 2
  have z2 := blk_at A8 2
  have y3 := blk_at B8 3
  have f3 := B8.frozen (by simp [maxLen]) 3
  have z3 := blk_at A8 3
  have y4 := blk_at B8 4
  have f4 := B8.frozen (by simp [maxLen]) 4
  have z4 := blk_at A8 4
  simp only [List.getElem?_cons_zero, List.getElem?_cons_succ] at y0 y1 y2 y3 y4 z0 z1 z2 z3 z4
  clear b8 A8 b78 B8 bw S o9 o7 b7 N7 H6
  go_wp2_with fail
  go_region
  go_wp2
  clear y0 y1 y2 y3 y4 f0 f1 f2 f3 f4 z0 z1 z2 z3 z4
  generalize ((((((W7.alloc (.cells #[.int .i64 K1, .int .i64 K2, .int .i64 K3, .int .i64 K4, .slice x C.length c] 38)).setCell ⟨w.heap.size, 0, none⟩ (.int .i64 K1)).setCell ⟨w.heap.size, 1, none⟩ (.int .i64 K2)).setCell ⟨w.heap.size, 2, none⟩ (.int .i64 K3)).setCell ⟨w.heap.size, 3, none⟩ (.int .i64 K4)).setCell ⟨w.heap.size, 4, none⟩ (.slice x C.length c)) = wf at *
  have bd : Below wf.heap.size wf wf.drew := below_drew1 _ _
  have Bf := G.out.1.laterB bd
  have y0 := blk_at Bf 0
  have y1 := blk_at Bf 1
  have y2 := blk_at Bf 2
  have y3 := blk_at Bf 3
  have y4 := blk_at Bf 4
  simp only [List.getElem?_cons_zero, List.getElem?_cons_succ] at y0 y1 y2 y3 y4
  refine bodyPost_ret (v := .tuple #[.int .i64 1, .agg #[.int .i64 K1, .int .i64 K2, .int .i64 K3, .int .i64 K4, .slice x C.length c]]) (by simp [results, Try.results18, go_sem, y0, y1, y2, y3, y4]) rfl ?_
  rw [← HQ.out]
  exact ⟨x, c, rfl, G.out.2.2.later bd, below_then G.out.2.1 bd⟩
end Go.Proofs.Ytkcbbaanlkpeiaa

/- An answer put behind all others. -/
namespace Go.Proofs.Ytkcbbaanlkpeiaa
open Go.RowKit
set_option linter.unusedVariables false
set_option linter.unusedSimpArgs false
set_option maxRecDepth 4000

theorem info_answer : (Try.prog.info? 90).map (fun i => (i.zero, i.size, i.bytes)) = some (some (.agg #[.int .i64 0, .int .i64 0, .string (ByteArray.mk #[])]), 3, 32) := by kernel_rfl
set_option maxHeartbeats 1000000 in
theorem insert_end (v : Value) (l : List An) (a b : Int) (s : ByteArray) (k : Nat) (w : World) (ho : AOwn w v l) (hl : l.length ≤ 1000) (hk : Blk w k 90 [.int .i64 a, .int .i64 b, .string s]) :
    Calls Try.prog 76 #[v, .int .i64 l.length, .slice (some ⟨k, 0, none⟩) 1 1] w fun e w' => ∃ v', e = .returned v' ∧ AOwn w' v' (l ++ [(a, b, s)]) ∧ w.grownBy w' v.ownBlock ∧ (v'.ownBlock = v.ownBlock ∨ v'.ownBlock = some w.heap.size) := by
  obtain ⟨i0, hi, hz0, hz1, hz2⟩ := info_parts info_answer
  have HO : Hid _ := ho
  have HK : Hid _ := hk
  obtain ⟨h1, ⟨h2, h3⟩ | ⟨g, cap, cur, rfl, hb, hh, hc, hm, hs, ht⟩⟩ := ho
  · obtain rfl : l = [] := List.eq_nil_of_length_eq_zero h3
    subst h2
    clear h1 h3 hk
    go_enter Try.func76, Try.ntmps76
    go_wp2_with (at_builtin; refine wpList_append_own_at (w := w) rfl _ _ 55 rfl 0 90 i0 (.agg #[.int .i64 0, .int .i64 0, .string (ByteArray.mk #[])]) 3 32 Try.underlying55 hi hz0 hz1 hz2 rfl (by decide) (.slice none 0 0) _ _ rfl HO.out ⟨k, 0, none⟩ 1 1 [.int .i64 a, .int .i64 b, .string s] rfl rfl ?_ ?_ (by unfold maxLen; omega) (by omega) (Nat.zero_le _) ?_)
    · intro j u hj
      rw [Addr.add_lit, Nat.zero_add, blk_at HK.out, hj]
    · intro u hu
      simp only [List.mem_cons, List.not_mem_nil, or_false] at hu
      rcases hu with rfl | rfl | rfl <;> rfl
    · intro v' w' h2 h3 _ h5
      have F : Hid _ := And.intro h2 (And.intro h3 h5)
      clear h2 h3 h5 HO HK
      go_wp2
      go_ret
      refine ⟨v', rfl, ?_, F.out.2.1, F.out.2.2⟩
      have := F.out.1
      unfold AOwn
      first | exact this | (rw [acells_append, List.length_append]; exact this)
  · have q1 : (l.length : Int) ≤ (cap : Int) := by omega
    have q2 : (l.length : Int) ≤ 1000 := by omega
    have q3 : l.length ≤ cap := by omega
    clear h1 hb hh hm hs ht hk
    go_enter Try.func76, Try.ntmps76
    go_wp2_with (at_builtin; refine wpList_append_own_at (w := w) rfl _ _ 55 rfl 0 90 i0 (.agg #[.int .i64 0, .int .i64 0, .string (ByteArray.mk #[])]) 3 32 Try.underlying55 hi hz0 hz1 hz2 rfl (by decide) (.slice (some ⟨g, 0, none⟩) l.length cap) _ _ rfl HO.out ⟨k, 0, none⟩ 1 1 [.int .i64 a, .int .i64 b, .string s] rfl rfl ?_ ?_ (by unfold maxLen; omega) (by omega) (Nat.zero_le _) ?_)
    · intro j u hj
      rw [Addr.add_lit, Nat.zero_add, blk_at HK.out, hj]
    · intro u hu
      simp only [List.mem_cons, List.not_mem_nil, or_false] at hu
      rcases hu with rfl | rfl | rfl <;> rfl
    · intro v' w' h2 h3 _ h5
      have F : Hid _ := And.intro h2 (And.intro h3 h5)
      clear h2 h3 h5 HO HK
      go_wp2
      go_ret
      refine ⟨v', rfl, ?_, F.out.2.1, F.out.2.2⟩
      have := F.out.1
      unfold AOwn
      first | exact this | (rw [acells_append, List.length_append]; exact this)
    · intro v' w' h2 h3 _ h5
      have F : Hid _ := And.intro h2 (And.intro h3 h5)
      clear h2 h3 h5 HO HK
      go_wp2
      go_ret
      refine ⟨v', rfl, ?_, F.out.2.1, F.out.2.2⟩
      have := F.out.1
      unfold AOwn
      first | exact this | (rw [acells_append, List.length_append]; exact this)
end Go.Proofs.Ytkcbbaanlkpeiaa

/- A table that is new; two answers that are alike. -/
namespace Go.Proofs.Ytkcbbaanlkpeiaa
open Go.RowKit
set_option linter.unusedVariables false
set_option linter.unusedSimpArgs false
set_option maxRecDepth 4000

set_option maxHeartbeats 1000000 in
theorem same_yes (a b c d : Int) (x y : Option Addr) (cp cq : Nat) (l : List (BitVec 8)) (w : World) (hl : l.length ≤ 140737488351232) (hx : Row w x l) (hy : Row w y l) :
    Calls Try.prog 20 #[.agg #[.int .i64 a, .int .i64 b, .int .i64 c, .int .i64 d, .slice x l.length cp], .agg #[.int .i64 a, .int .i64 b, .int .i64 c, .int .i64 d, .slice y l.length cq]] w fun e w' => e = .returned (.bool true) ∧ Below w.heap.size w w' := by
  have b1 : Below w.heap.size w (w.alloc (.cells #[.int .i64 a, .int .i64 b, .int .i64 c, .int .i64 d, .slice x l.length cp] 38)) := (Below.refl _ _).alloc (Nat.le_refl _) _
  have A1 := Blk.new' w 38 [.int .i64 a, .int .i64 b, .int .i64 c, .int .i64 d, .slice x l.length cp]
  have b2 : Below (w.alloc (.cells #[.int .i64 a, .int .i64 b, .int .i64 c, .int .i64 d, .slice x l.length cp] 38)).heap.size (w.alloc (.cells #[.int .i64 a, .int .i64 b, .int .i64 c, .int .i64 d, .slice x l.length cp] 38)) ((w.alloc (.cells #[.int .i64 a, .int .i64 b, .int .i64 c, .int .i64 d, .slice x l.length cp] 38)).alloc (.cells #[.int .i64 a, .int .i64 b, .int .i64 c, .int .i64 d, .slice y l.length cq] 38)) := (Below.refl _ _).alloc (Nat.le_refl _) _
  have A2 := A1.laterB b2
  have B2 := Blk.new' (w.alloc (.cells #[.int .i64 a, .int .i64 b, .int .i64 c, .int .i64 d, .slice x l.length cp] 38)) 38 [.int .i64 a, .int .i64 b, .int .i64 c, .int .i64 d, .slice y l.length cq]
  rw [show (w.alloc (.cells #[.int .i64 a, .int .i64 b, .int .i64 c, .int .i64 d, .slice x l.length cp] 38)).heap.size = w.heap.size + 1 by simp] at B2
  have bb := below_then b1 b2
  have s1 := (hx.later bb).str l.length cp (by omega)
  have s2 := (hy.later bb).str l.length cq (by omega)
  have n0 := blk_at A2 0
  have m0 := blk_at B2 0
  have n1 := blk_at A2 1
  have m1 := blk_at B2 1
  have n2 := blk_at A2 2
  have m2 := blk_at B2 2
  have n3 := blk_at A2 3
  have m3 := blk_at B2 3
  have n4 := blk_at A2 4
  have m4 := blk_at B2 4
  simp only [List.getElem?_cons_zero, List.getElem?_cons_succ] at n0 n1 n2 n3 n4 m0 m1 m2 m3 m4
  have H : Hid _ := bb
  clear b1 A1 b2 A2 B2 bb hx hy
  go_enter Try.func20, Try.ntmps20
  go_wp2
  go_ret
  exact ⟨rfl, H.out⟩
set_option maxHeartbeats 1000000 in
theorem ddNew_any (w : World) : Calls Try.prog 14 #[] w fun e w' => e = .returned (.pointer (some ⟨w.heap.size, 0, none⟩)) ∧ Blk w' w.heap.size 62 (List.replicate 16 [Value.int .i64 0, Value.slice none 0 0]).flatten ∧ Below w.heap.size w w' := by
  have b1 : Below w.heap.size w (w.alloc (.cells (List.replicate 16 [Value.int .i64 0, Value.slice none 0 0]).flatten.toArray 62)) := (Below.refl _ _).alloc (Nat.le_refl _) _
  have A1 := Blk.new' w 62 (List.replicate 16 [Value.int .i64 0, Value.slice none 0 0]).flatten
  have H : Hid _ := And.intro A1 b1
  clear A1 b1
  go_enter Try.func14, Try.ntmps14
  go_wp2
  go_ret
  exact ⟨rfl, H.out.1, H.out.2⟩
end Go.Proofs.Ytkcbbaanlkpeiaa

/- A table that is not there. -/
namespace Go.Proofs.Ytkcbbaanlkpeiaa
open Go.RowKit
set_option linter.unusedVariables false
set_option linter.unusedSimpArgs false
set_option maxRecDepth 4000

theorem put_nil (q n : Int) (a b c d : Int) (v : Value) (w : World) (hv : v.oneCell' = true) :
    Calls Try.prog 15 #[.pointer none, .int .i64 q, .int .i64 n, .agg #[.int .i64 a, .int .i64 b, .int .i64 c, .int .i64 d, v]] w fun e w' => e = .returned (.int .i64 2) ∧ Below w.heap.size w w' := by
  have H : Hid (Below w.heap.size w (w.alloc (.cells #[.int .i64 a, .int .i64 b, .int .i64 c, .int .i64 d, v] 38))) := (Below.refl _ _).alloc (Nat.le_refl _) _
  go_enter Try.func15, Try.ntmps15
  go_wp2
  go_ret
  exact ⟨rfl, H.out⟩
theorem len_nil (q : Int) (w : World) : Calls Try.prog 19 #[.pointer none, .int .i64 q] w fun e w' => e = .returned (.int .i64 0) ∧ w = w' := by
  go_enter Try.func19, Try.ntmps19
  go_wp2
  go_ret
  exact ⟨rfl, rfl⟩
theorem last_nil (q : Int) (w : World) : Calls Try.prog 39 #[.pointer none, .int .i64 q] w fun e w' => e = .returned (.int .i64 0) ∧ w = w' := by
  go_enter Try.func39, Try.ntmps39
  go_wp2
  go_ret
  exact ⟨rfl, rfl⟩
theorem forget_nil (q : Int) (w : World) : Calls Try.prog 17 #[.pointer none, .int .i64 q] w fun e w' => e = .returned (.int .i64 0) ∧ w = w' := by
  go_enter Try.func17, Try.ntmps17
  go_wp2_with fail
  refine (len_nil q w).mono ?_
  rintro e w1 ⟨rfl, rfl⟩
  go_wp2
  go_ret
  exact ⟨rfl, rfl⟩
theorem bytes_nil (w : World) : Calls Try.prog 12 #[.pointer none] w fun e w' => e = .returned (.slice none 0 0) ∧ w = w' := by
  go_enter Try.func12, Try.ntmps12
  go_wp2
  go_ret
  exact ⟨rfl, rfl⟩

theorem same_nil (w : World) : Calls Try.prog 21 #[.pointer none, .pointer none] w fun e w' => e = .returned (.bool true) ∧ w = w' := by
  go_enter Try.func21, Try.ntmps21
  go_wp2
  go_ret
  exact ⟨rfl, rfl⟩
theorem same_not (g : Nat) (w : World) : Calls Try.prog 21 #[.pointer none, .pointer (some ⟨g, 0, none⟩)] w fun e w' => e = .returned (.bool false) ∧ w = w' := by
  have he : (binOp .eql 24 (.pointer none) (.pointer (some ⟨g, 0, none⟩))).run Try.prog w = .ok (.bool false) w := by first | rfl | kernel_rfl
  go_enter Try.func21, Try.ntmps21
  go_wp2
  go_ret
  exact ⟨rfl, rfl⟩
end Go.Proofs.Ytkcbbaanlkpeiaa

/- There and back: the answer of its bytes. -/
namespace Go.Proofs.Ytkcbbaanlkpeiaa
open Go.RowKit
set_option linter.unusedVariables false
set_option linter.unusedSimpArgs false
set_option maxRecDepth 4000

theorem num_mod12 (k : Nat) (hk : k ≤ 8) (x : BitVec 64) : (num (be k x)).toNat = x.toNat % 2 ^ (8 * k) := by
  induction k generalizing x with
  | zero =>
    have : be 0 x = [] := by simp [be, be8]
    rw [this]
    simp [num, Nat.mod_one]
  | succ k ih =>
    rw [be_snoc k x hk, num_snoc, BitVec.toNat_or, BitVec.toNat_shiftLeft, ih (by omega), BitVec.toNat_setWidth, BitVec.toNat_setWidth, BitVec.toNat_ushiftRight, Nat.shiftRight_eq_div_pow]
    have hA : x.toNat / 2 ^ 8 % 2 ^ (8 * k) < 2 ^ 56 := Nat.lt_of_lt_of_le (Nat.mod_lt _ (Nat.two_pow_pos _)) (Nat.pow_le_pow_right (by omega) (by omega))
    have hm : x.toNat % 2 ^ (8 * (k + 1)) = x.toNat % 256 + 256 * (x.toNat / 2 ^ 8 % 2 ^ (8 * k)) := by
      rw [show 8 * (k + 1) = 8 + 8 * k by omega, Nat.pow_add, Nat.mod_mul]
    rw [hm]
    generalize x.toNat / 2 ^ 8 % 2 ^ (8 * k) = A at *
    rw [Nat.shiftLeft_eq, Nat.mod_eq_of_lt (show A * 2 ^ 8 < 2 ^ 64 by omega), Nat.mod_eq_of_lt (show x.toNat % 2 ^ 8 < 2 ^ 64 by omega), ← Nat.shiftLeft_eq, ← Nat.shiftLeft_add_eq_or_of_lt (show x.toNat % 2 ^ 8 < 2 ^ 8 by omega), Nat.shiftLeft_eq]
    omega
theorem rd_num12 (s : Nat) (n : Int) (Y : List (BitVec 8)) (h1 : s = 1 ∨ s = 6) (h0 : 0 ≤ n) (hb : n < 2 ^ (8 * s)) : rdNum (be s (BitVec.ofInt 64 n) ++ Y) 0 s = (Y, 0, n) := by
  have hbl := be_length s (BitVec.ofInt 64 n) (by omega)
  have hnE : numE (be s (BitVec.ofInt 64 n) ++ Y).length s = 0 := by
    unfold numE
    have hw : widthB s = true := by unfold widthB; rw [decide_eq_true_eq]; omega
    rw [hw, if_neg (by decide), List.length_append, hbl, if_neg (by omega)]
  have e : ((numTo (be s (BitVec.ofInt 64 n) ++ Y) 0 s).toNat : Int) = n % 18446744073709551616 % 2 ^ (8 * s) := by
    unfold numTo
    rw [List.drop_zero, List.take_left' hbl, num_mod12 s (by omega), Int.natCast_emod, ← toU64]
    simp
  unfold rdNum
  rw [if_pos rfl, if_pos hnE, Int.toNat_natCast, List.drop_left' hbl, e]
  have : wrap64 (n % 18446744073709551616 % 2 ^ (8 * s)) = n := by
    unfold wrap64
    rcases h1 with rfl | rfl <;> simp only [Nat.reduceMul, Int.reducePow] at hb ⊢ <;> omega
  rw [this]
theorem rd_bytes12 (l Y : List (BitVec 8)) (h : l.length ≤ 4096) : rdBytes ((be 2 (BitVec.ofNat 64 l.length) ++ l) ++ Y) 0 2 = (Y, 0, l) := by
  have hbl := be_length 2 (BitVec.ofNat 64 l.length) (by omega)
  have hnum : (numTo ((be 2 (BitVec.ofNat 64 l.length) ++ l) ++ Y) 0 2).toNat = l.length := by
    unfold numTo
    rw [List.drop_zero, List.append_assoc, List.take_left' hbl, num_mod12 2 (by omega), BitVec.toNat_ofNat, Nat.mod_eq_of_lt (a := l.length) (by omega), Nat.mod_eq_of_lt (by omega)]
  have hE : cutE ((be 2 (BitVec.ofNat 64 l.length) ++ l) ++ Y) 2 = 0 := by
    unfold cutE
    have e : ((2 : Int)).toNat = 2 := rfl
    rw [if_neg (by decide), e, hnum, List.length_append, List.length_append, hbl, if_neg (by omega), if_neg (by omega), if_neg (by omega)]
  have hN : cutN ((be 2 (BitVec.ofNat 64 l.length) ++ l) ++ Y) 2 = 2 + l.length := by
    unfold cutN
    have e : ((2 : Int)).toNat = 2 := rfl
    rw [if_pos hE, e, hnum]
  unfold rdBytes
  have e : ((2 : Int)).toNat = 2 := rfl
  rw [if_pos rfl, if_pos hE, hN, e]
  have e1 : ((be 2 (BitVec.ofNat 64 l.length) ++ l) ++ Y).drop (2 + l.length) = Y := List.drop_left' (by rw [List.length_append, hbl])
  have e2 : (((be 2 (BitVec.ofNat 64 l.length) ++ l) ++ Y).drop 2).take (2 + l.length - 2) = l := by
    rw [List.append_assoc, List.drop_left' hbl, List.take_left' (by omega)]
  rw [e1, e2]
theorem rd_one12 {n : Int} (h : byteOk n) (Y : List (BitVec 8)) : rdNum (be 1 (BitVec.ofInt 64 n) ++ Y) 0 1 = (Y, 0, n) := by
  have := rd_num12 1 n Y (.inl rfl) h.1 (by have := h.2; simp only [Nat.reduceMul, Int.reducePow]; omega)
  exact this
/-- the bytes of an answer are that answer -/
theorem there_back {a b c d : Int} {l : List (BitVec 8)} (h : prE a b c d l.length = 0) : grE (prB a b c d l) = 0 ∧ grR (prB a b c d l) = (a, b, c, d, l) := by
  have h4 : fourOk a b c d := by
    unfold prE at h
    by_cases k : fourOk a b c d
    · exact k
    · rw [if_neg k] at h; cases h
  have hl : l.length ≤ 4096 := by
    unfold prE at h
    rw [if_pos h4] at h
    by_cases k : l.length ≤ 4096
    · exact k
    · rw [if_neg k] at h; cases h
  have eB : prB a b c d l = be 1 (BitVec.ofInt 64 a) ++ (be 1 (BitVec.ofInt 64 b) ++ (be 1 (BitVec.ofInt 64 c) ++ (be 1 (BitVec.ofInt 64 d) ++ ((be 2 (BitVec.ofNat 64 l.length) ++ l) ++ [])))) := by
    unfold prB
    rw [if_pos h]
    simp [fourB]
  rw [eB]
  generalize hX : be 1 (BitVec.ofInt 64 a) ++ (be 1 (BitVec.ofInt 64 b) ++ (be 1 (BitVec.ofInt 64 c) ++ (be 1 (BitVec.ofInt 64 d) ++ ((be 2 (BitVec.ofNat 64 l.length) ++ l) ++ [])))) = X
  have g1 : gr1 X = (be 1 (BitVec.ofInt 64 b) ++ (be 1 (BitVec.ofInt 64 c) ++ (be 1 (BitVec.ofInt 64 d) ++ ((be 2 (BitVec.ofNat 64 l.length) ++ l) ++ []))), 0, a) := by rw [← hX]; exact rd_one12 h4.1 _
  have g2 : gr2 X = (be 1 (BitVec.ofInt 64 c) ++ (be 1 (BitVec.ofInt 64 d) ++ ((be 2 (BitVec.ofNat 64 l.length) ++ l) ++ [])), 0, b) := by unfold gr2; rw [g1]; exact rd_one12 h4.2.1 _
  have g3 : gr3 X = (be 1 (BitVec.ofInt 64 d) ++ ((be 2 (BitVec.ofNat 64 l.length) ++ l) ++ []), 0, c) := by unfold gr3; rw [g2]; exact rd_one12 h4.2.2.1 _
  have g4 : gr4 X = ((be 2 (BitVec.ofNat 64 l.length) ++ l) ++ [], 0, d) := by unfold gr4; rw [g3]; exact rd_one12 h4.2.2.2 _
  have g5 : gr5 X = ([], 0, l) := by unfold gr5; rw [g4]; exact rd_bytes12 l [] hl
  have g6 : gr6 X = 0 := by unfold gr6; rw [g5]; rfl
  have gE : grE X = 0 := by unfold grE; rw [if_pos g6, g5, if_pos hl]
  refine ⟨gE, ?_⟩
  unfold grR
  rw [if_pos gE, g1, g2, g3, g4, g5]
end Go.Proofs.Ytkcbbaanlkpeiaa

/- Where an answer with the greatest number goes. -/
namespace Go.Proofs.Ytkcbbaanlkpeiaa
open Go.RowKit
set_option linter.unusedVariables false
set_option linter.unusedSimpArgs false
set_option maxRecDepth 4000

theorem slot_end {l : List An} {n : Int} {i : Nat} (h : SlotIs l n i) (hlt : ∀ z ∈ l, z.2.1 < n) : i = l.length := by
  rcases Nat.lt_or_ge i l.length with k | k
  · have h1 := h.hi i k (Nat.le_refl _)
    have h2 := hlt _ (List.getElem_mem k)
    omega
  · have := h.le
    omega
/-- what the drawn statement of put keeps: the list's cell, the answer's three -/
structure PutS (w0 W : World) (g o k : Nat) (v : Value) (a b : Int) (s : ByteArray) : Prop where
  below : Below w0.heap.size w0 W
  list : W.cell? ⟨g, o, none⟩ = some v
  c0 : W.cell? ⟨k, 0, none⟩ = some (.int .i64 a)
  c1 : W.cell? ⟨k, 1, none⟩ = some (.int .i64 b)
  c2 : W.cell? ⟨k, 2, none⟩ = some (.string s)
theorem PutS.later {w0 W W' : World} {g o k : Nat} {v : Value} {a b : Int} {s : ByteArray} (h : PutS w0 W g o k v a b s) (hb : Below W.heap.size W W') : PutS w0 W' g o k v a b s :=
  ⟨below_then h.below hb, cell_later hb h.list, cell_later hb h.c0, cell_later hb h.c1, cell_later hb h.c2⟩
/-- slot, within put -/
theorem put_slot {w0 W : World} {g o k : Nat} {v : Value} {a b : Int} {s : ByteArray} {l : List An} (h : PutS w0 W g o k v a b s) (ho : AOwn w0 v l) (hr : Rise l) (hl : l.length ≤ 1000) (hlt : ∀ z ∈ l, z.2.1 < b) :
    Calls Try.prog 70 #[.pointer (some ⟨g, o, none⟩), .int .i64 b] W fun e w' => e = .returned (.int .i64 l.length) ∧ Below W.heap.size W w' := by
  refine (ddslot_any g o v l b W h.list (ho.later h.below) hr hl).mono ?_
  rintro e w' ⟨⟨i, rfl, hi⟩, hb⟩
  rw [slot_end hi hlt]
  exact ⟨rfl, hb⟩
end Go.Proofs.Ytkcbbaanlkpeiaa
