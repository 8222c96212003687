/- What a command is, where its answer is kept. -/
import Derived.Test.YtfhcifkbkeihhaaXDd9
import Derived.Lib.ConvBytes
namespace Go.Proofs.Ytfhcifkbkeihhaa
open Go.RowKit
set_option linter.unusedVariables false
set_option linter.unusedSimpArgs false
set_option maxRecDepth 4000

theorem below_drew1 (B : Nat) (w : World) : Below B w w.drew := (Below.refl B w).drew
/-- a string's bytes as a new row -/
theorem dbytes_of_str (w : World) (l : List (BitVec 8)) : ∃ c w', (convert 9 22 (.string (str l))).run Try.prog w = .ok (.slice (some ⟨w.heap.size, 0, none⟩) l.length c) w' ∧ l.length ≤ c ∧ w'.heap.size = w.heap.size + 1 ∧ Row w' (some ⟨w.heap.size, 0, none⟩) l ∧ Below w.heap.size w w' := by
  have hd : (str l).data.toList = l.map (fun c : BitVec 8 => UInt8.ofNat c.toNat) := by
    unfold str; rw [strOfNums_data, List.map_map]; exact List.map_congr_left (fun c _ => rfl)
  have hsz : (str l).size = l.length := by
    have := congrArg List.length hd
    rw [List.length_map, Array.length_toList] at this
    exact this
  have hrun := Lib.run_convert_string_bytes (P := Try.prog) w 9 22 5 (str l) Try.underlying9 Try.underlying22 Try.underlying5
  rw [hsz] at hrun
  refine ⟨_, _, hrun, grownCap_ge _ _ _ _, Lib.bytesWorld_size _ _ _, .inr ⟨_, 0, rfl, fun i hi => ?_⟩, ⟨rfl, rfl, rfl, by rw [Lib.bytesWorld_size]; omega, fun k hk => Lib.bytesWorld_at_old w _ _ k hk⟩⟩
  rw [Nat.zero_add, Lib.bytesWorld_cell w _ _ i (by rw [hsz]; exact hi), hd]
  unfold bt
  rw [List.getD, List.getD, List.getElem?_map, List.getElem?_eq_getElem hi]
  simp only [Option.map_some, Option.getD_some, UInt8.toNat_ofNat']
  rw [Nat.mod_eq_of_lt (l[i]).isLt]
set_option maxHeartbeats 2000000 in
theorem check_done (g q : Nat) (n fl : Int) (v : Value) (l : List An) (bs : List (BitVec 8)) (w : World) (hq : q < 16) (hc : canP q n = true) (hM : MemAt w g q fl v l) (hf : fromOf l n = ((q : Int), n, str bs)) (hbs : bs.length ≤ 140737488351232) :
    Calls Try.prog 14 #[.pointer (some ⟨g, 0, none⟩), .int .i64 q, .int .i64 n] w fun e w' => ∃ x c, e = .returned (.tuple #[.int .i64 1, .agg #[.int .i64 (grR bs).1, .int .i64 (grR bs).2.1, .int .i64 (grR bs).2.2.1, .int .i64 (grR bs).2.2.2.1, .slice x (grR bs).2.2.2.2.length c]]) ∧ Own w' w.heap.size (.slice x (grR bs).2.2.2.2.length c) (grR bs).2.2.2.2 ∧ Below w.heap.size w w' := by
  have b1 : Below w.heap.size w (w.alloc (.cells #[.int .i64 0, .int .i64 0, .int .i64 0, .int .i64 0, .slice none 0 0] 24)) := (Below.refl _ _).alloc (Nat.le_refl _) _
  have B1 := Blk.new' w 24 [.int .i64 0, .int .i64 0, .int .i64 0, .int .i64 0, .slice none 0 0]
  have b2 : Below (w.alloc (.cells #[.int .i64 0, .int .i64 0, .int .i64 0, .int .i64 0, .slice none 0 0] 24)).heap.size (w.alloc (.cells #[.int .i64 0, .int .i64 0, .int .i64 0, .int .i64 0, .slice none 0 0] 24)) ((w.alloc (.cells #[.int .i64 0, .int .i64 0, .int .i64 0, .int .i64 0, .slice none 0 0] 24)).alloc (.cells #[.int .i64 q, .int .i64 n] 64)) := (Below.refl _ _).alloc (Nat.le_refl _) _
  have A2 := Blk.new' (w.alloc (.cells #[.int .i64 0, .int .i64 0, .int .i64 0, .int .i64 0, .slice none 0 0] 24)) 64 [.int .i64 q, .int .i64 n]
  rw [show (w.alloc (.cells #[.int .i64 0, .int .i64 0, .int .i64 0, .int .i64 0, .slice none 0 0] 24)).heap.size = w.heap.size + 1 by simp] at A2
  have B2 := B1.laterB b2
  have bb := below_then b1 b2
  have a0 := blk_at A2 0
  have a1 := blk_at A2 1
  simp only [List.getElem?_cons_zero, List.getElem?_cons_succ] at a0 a1
  have H2 : Hid _ := And.intro bb (And.intro B2 (And.intro A2 (hM.later bb)))
  clear b1 B1 b2 A2 B2 bb hM
  have HN : Hid _ := canBe_any q n ((w.alloc (.cells #[.int .i64 0, .int .i64 0, .int .i64 0, .int .i64 0, .slice none 0 0] 24)).alloc (.cells #[.int .i64 q, .int .i64 n] 64))
  rw [hc] at HN
  clear hc
  have q1 : (q : Int) < 16 := by omega
  go_enter Try.func14, Try.ntmps14
  go_wp2_with fail
  generalize ((w.alloc (.cells #[.int .i64 0, .int .i64 0, .int .i64 0, .int .i64 0, .slice none 0 0] 24)).alloc (.cells #[.int .i64 q, .int .i64 n] 64)) = W2 at *
  clear a0 a1
  refine (Calls.mono HN.out) ?_
  rintro r W3 ⟨rfl, b3⟩
  have H3 : Hid (Below w.heap.size w W3 ∧ Blk W3 w.heap.size 24 [.int .i64 0, .int .i64 0, .int .i64 0, .int .i64 0, .slice none 0 0] ∧ Blk W3 (w.heap.size + 1) 64 [.int .i64 q, .int .i64 n] ∧ MemAt W3 g q fl v l) := ⟨below_then H2.out.1 b3, H2.out.2.1.laterB b3, H2.out.2.2.1.laterB b3, H2.out.2.2.2.later b3⟩
  clear H2 HN b3
  have N4 : Hid _ := ddfrom_any g (q * 2 + 1) v l n W3 H3.out.2.2.2.list H3.out.2.2.2.own H3.out.2.2.2.rise H3.out.2.2.2.len
  rw [hf] at N4
  clear hf
  simp only at N4
  go_wp2_with fail
  refine (Calls.mono N4.out) ?_
  rintro r W4 ⟨rfl, b4⟩
  have b5 : Below W4.heap.size W4 (W4.alloc (.cells #[.int .i64 q, .int .i64 n, .string (str bs)] 75)) := (Below.refl _ _).alloc (Nat.le_refl _) _
  have A5 := Blk.new' W4 75 [.int .i64 q, .int .i64 n, .string (str bs)]
  have b45 := below_then b4 b5
  obtain ⟨c6, W6, hrun, hc6, s6, r6, b6⟩ := dbytes_of_str (W4.alloc (.cells #[.int .i64 q, .int .i64 n, .string (str bs)] 75)) bs
  have hs5 : (W4.alloc (.cells #[.int .i64 q, .int .i64 n, .string (str bs)] 75)).heap.size = W4.heap.size + 1 := by simp
  rw [hs5] at hrun r6
  have H5 : Hid (Below w.heap.size w (W4.alloc (.cells #[.int .i64 q, .int .i64 n, .string (str bs)] 75)) ∧ Blk (W4.alloc (.cells #[.int .i64 q, .int .i64 n, .string (str bs)] 75)) w.heap.size 24 [.int .i64 0, .int .i64 0, .int .i64 0, .int .i64 0, .slice none 0 0] ∧ Blk (W4.alloc (.cells #[.int .i64 q, .int .i64 n, .string (str bs)] 75)) (w.heap.size + 1) 64 [.int .i64 q, .int .i64 n]) := ⟨below_then H3.out.1 b45, H3.out.2.1.laterB b45, H3.out.2.2.1.laterB b45⟩
  have H6 : Hid (Below w.heap.size w W6 ∧ Blk W6 w.heap.size 24 [.int .i64 0, .int .i64 0, .int .i64 0, .int .i64 0, .slice none 0 0]) := ⟨below_then H5.out.1 b6, H5.out.2.1.laterB b6⟩
  have N7 : Hid _ := getReply_any (some ⟨W4.heap.size + 1, 0, none⟩) bs.length c6 bs W6 rfl hc6 r6 (fun e => by cases e) hbs
  have x0 := blk_at A5 0
  have x1 := blk_at A5 1
  have x2 := blk_at A5 2
  have p0 := blk_at H5.out.2.2 0
  have p1 := blk_at H5.out.2.2 1
  simp only [List.getElem?_cons_zero, List.getElem?_cons_succ] at x0 x1 x2 p0 p1
  clear H3 N4 b4 b5 A5 b45 hc6 s6 r6 b6 hs5 H5
  go_wp2_with fail
  clear x0 x1 x2 p0 p1 hrun
  obtain ⟨rr, hrr⟩ : ∃ r, r = grR bs := ⟨_, rfl⟩
  have HQ : Hid (rr = grR bs) := hrr
  rw [← hrr] at N7
  clear hrr
  obtain ⟨K1, K2, K3, K4, C⟩ := rr
  simp only at N7
  refine (Calls.mono N7.out) ?_
  rintro r W7 ⟨x, c, rfl, o7, b7⟩
  have b8 : Below W7.heap.size W7 (W7.alloc (.cells #[.int .i64 K1, .int .i64 K2, .int .i64 K3, .int .i64 K4, .slice x C.length c] 24)) := (Below.refl _ _).alloc (Nat.le_refl _) _
  have A8 := Blk.new' W7 24 [.int .i64 K1, .int .i64 K2, .int .i64 K3, .int .i64 K4, .slice x C.length c]
  have b78 := below_then b7 b8
  have B8 := H6.out.2.laterB b78
  have bw := below_then H6.out.1 b78
  have S := set5_below B8 rfl (.int .i64 K1) (.int .i64 K2) (.int .i64 K3) (.int .i64 K4) (.slice x C.length c) w.heap.size w bw (Nat.le_refl _) bw.size
  have o9 := ((o7.later b8).keep S.2.1 (fun k hk e => by
    have h1 := (World.ownsRow.lt o7 k hk).1
    have h2 := H6.out.2.lt
    injection e with e
    omega)).lower H6.out.1.size
  have G : Hid _ := And.intro S.1 (And.intro S.2.2 o9)
  have y0 := blk_at B8 0
  have f0 := B8.frozen (by simp [maxLen]) 0
  have z0 := blk_at A8 0
  have y1 := blk_at B8 1
  have f1 := B8.frozen (by simp [maxLen]) 1
  have z1 := blk_at A8 1
  have y2 := blk_at B8 2
  have f2 := B8.frozen (by simp [maxLen]) 2
  have z2 := blk_at A8 2
  have y3 := blk_at B8 3
  have f3 := B8.frozen (by simp [maxLen]) 3
  have z3 := blk_at A8 3
  have y4 := blk_at B8 4
  have f4 := B8.frozen (by simp [maxLen]) 4
  have z4 := blk_at A8 4
  simp only [List.getElem?_cons_zero, List.getElem?_cons_succ] at y0 y1 y2 y3 y4 z0 z1 z2 z3 z4
  clear b8 A8 b78 B8 bw S o9 o7 b7 N7 H6
  go_wp2_with fail
  go_region
  go_wp2
  clear y0 y1 y2 y3 y4 f0 f1 f2 f3 f4 z0 z1 z2 z3 z4
  generalize ((((((W7.alloc (.cells #[.int .i64 K1, .int .i64 K2, .int .i64 K3, .int .i64 K4, .slice x C.length c] 24)).setCell ⟨w.heap.size, 0, none⟩ (.int .i64 K1)).setCell ⟨w.heap.size, 1, none⟩ (.int .i64 K2)).setCell ⟨w.heap.size, 2, none⟩ (.int .i64 K3)).setCell ⟨w.heap.size, 3, none⟩ (.int .i64 K4)).setCell ⟨w.heap.size, 4, none⟩ (.slice x C.length c)) = wf at *
  have bd : Below wf.heap.size wf wf.drew := below_drew1 _ _
  have Bf := G.out.1.laterB bd
  have y0 := blk_at Bf 0
  have y1 := blk_at Bf 1
  have y2 := blk_at Bf 2
  have y3 := blk_at Bf 3
  have y4 := blk_at Bf 4
  simp only [List.getElem?_cons_zero, List.getElem?_cons_succ] at y0 y1 y2 y3 y4
  refine bodyPost_ret (v := .tuple #[.int .i64 1, .agg #[.int .i64 K1, .int .i64 K2, .int .i64 K3, .int .i64 K4, .slice x C.length c]]) (by simp [results, Try.results14, go_sem, y0, y1, y2, y3, y4]) rfl ?_
  rw [← HQ.out]
  exact ⟨x, c, rfl, G.out.2.2.later bd, below_then G.out.2.1 bd⟩
end Go.Proofs.Ytfhcifkbkeihhaa

