/- What must come of fixed calls; an image that is refused. -/
import Derived.Test.YtdagekciipfnoaaXCk17
import Derived.Lib.SlBytesConst
namespace Go.Proofs.Ytdagekciipfnoaa
open Go.RowKit Go.Shelf
set_option linter.unusedVariables false
set_option linter.unusedSimpArgs false
set_option maxRecDepth 4000

theorem split_abc (x : Nat) (w : World) (hr : Row w (some ⟨x, 0, none⟩) abc) : Calls Try.prog 7 #[.int .i64 1, .slice (some ⟨x, 0, none⟩) 5 5, .int .i64 2] w fun e w' => ∃ D vs, e = .returned (.tuple #[.slice (some ⟨D, 0, none⟩) 3 3, .int .i64 0]) ∧ vs.length = 3 ∧ (pcsOb D vs (splL 1 abc 2 (npc abc.length 2))).Ok w' ∧ Below w.heap.size w w' := by
  refine (split_yes 1 (some ⟨x, 0, none⟩) 5 abc 2 w abc_img.id abc_img.s1 abc_img.s2 abc_img.bl abc_img.n (by decide) hr (fun h => by cases h)).mono ?_
  rintro e w' ⟨D, vs, rfl, hl, hP, hb⟩
  exact ⟨D, vs, rfl, hl, hP.ob (by rw [hl, splL_len]), hb⟩
set_option maxHeartbeats 8000000 in
theorem known7_any (w : World) : Calls Try.prog 8 #[] w fun e w' => e = .returned (.bool true) ∧ Below w.heap.size w w' := by
  have b1 : Below w.heap.size w (w.alloc (.cells #[.int .u8 97, .int .u8 98, .int .u8 99, .int .u8 100, .int .u8 101] 5 (5, 6))) := (Below.refl _ _).alloc (Nat.le_refl _) _
  have HS : Hid _ := split_abc w.heap.size (w.alloc (.cells #[.int .u8 97, .int .u8 98, .int .u8 99, .int .u8 100, .int .u8 101] 5 (5, 6))) (Row.newl w _ _ _ abc rfl)
  have HB : Hid _ := And.intro b1 trivial
  clear b1
  have hcv : (convert 22 22 (.slice (some ⟨w.heap.size, 0, none⟩) 5 5)).run Try.prog (w.alloc (.cells #[.int .u8 97, .int .u8 98, .int .u8 99, .int .u8 100, .int .u8 101] 5)) = .ok (.slice (some ⟨w.heap.size, 0, none⟩) 5 5) (w.alloc (.cells #[.int .u8 97, .int .u8 98, .int .u8 99, .int .u8 100, .int .u8 101] 5 (5, 6))) := Lib.run_convert_bytes_const (P := Try.prog) w 22 5 #[.int .u8 97, .int .u8 98, .int .u8 99, .int .u8 100, .int .u8 101] 5 5 Try.underlying22 Try.underlying5
  go_enter Try.func8, Try.ntmps8
  go_wp2_with fail
  generalize (w.alloc (.cells #[.int .u8 97, .int .u8 98, .int .u8 99, .int .u8 100, .int .u8 101] 5 (5, 6))) = w1 at *
  clear hcv
  refine (Calls.mono HS.out) ?_
  rintro e w2 ⟨D, vs, rfl, hl, hok, b2⟩
  have bb := below_then HB.out.1 b2
  have Z2 : Sep w.heap.size [] w2 := (Sep.nil (w := w)).later bb
  have Z2' : Sep w.heap.size [pcsOb D vs (splL 1 abc 2 (npc abc.length 2))] w2 := Z2.add (Below.refl _ _) hok (fun k hk => by cases hk) (fun k _ p hp => by cases hp)
  have HN : Hid _ := newZ Z2'
  have H2 : Hid _ := And.intro bb trivial
  obtain ⟨v0, v1, v2, rfl⟩ : ∃ v0 v1 v2, vs = [v0, v1, v2] := by
    match vs, hl with
    | [a, b, c], _ => exact ⟨a, b, c, rfl⟩
  clear HS HB b2 bb Z2 Z2' hok hl
  go_wp2_with fail
  refine (Calls.mono HN.out) ?_
  rintro e w3 ⟨p, rfl, Z3, b3⟩
  obtain ⟨u2, hu2, c2, -⟩ := pcs_at (Z3.each _ (List.mem_cons_of_mem _ (List.mem_cons_self ..))) 2 (by decide)
  obtain ⟨u2', hu2', ho2⟩ := (Z3.each _ (List.mem_cons_of_mem _ (List.mem_cons_self ..))).holds.each 2 (by rw [splL_len]; decide)
  rw [hu2] at hu2'
  cases hu2'
  obtain ⟨xa, xn, xc, rfl⟩ := own_slice ho2
  have HA : Hid _ := addZ abc_img Z3 2 (by decide) _ hu2 (.inl (by decide)) (by decide)
  have H3 : Hid _ := And.intro (below_then H2.out.1 b3) trivial
  clear HN H2 Z3 b3 ho2 hu2
  go_wp2_with fail
  clear c2
  refine (Calls.mono HA.out) ?_
  rintro e w4 ⟨rfl, p4, g4, Z4, b4⟩
  rw [show addP ⟨0, 0, [], 0⟩ 1 abc 2 2 = kn1 from rfl] at Z4
  rw [← g4]
  have bb4 := H3.out.1.trans b4
  obtain ⟨u0, hu0, c0, -⟩ := pcs_at (Z4.each _ (List.mem_cons_of_mem _ (List.mem_cons_self ..))) 0 (by decide)
  obtain ⟨u0', hu0', ho0⟩ := (Z4.each _ (List.mem_cons_of_mem _ (List.mem_cons_self ..))).holds.each 0 (by rw [splL_len]; decide)
  rw [hu0] at hu0'
  cases hu0'
  obtain ⟨ya, yn, yc, rfl⟩ := own_slice ho0
  have HA0 : Hid _ := addZ abc_img (m := kn1) Z4 0 (by decide) _ hu0 (.inr kn1_GI) (by rw [kn_ad.1]; decide)
  have H4 : Hid _ := And.intro bb4 trivial
  clear HA H3 Z4 b4 bb4 ho0 hu0 g4
  generalize p4.g = g at *
  go_wp2_with fail
  clear c0
  refine (Calls.mono HA0.out) ?_
  rintro e w5 ⟨rfl, p5, g5, Z5, b5⟩
  rw [show addP kn1 1 abc 2 0 = kn2 from rfl] at Z5
  have bb5 := H4.out.1.trans b5
  have HM : Hid _ := lawmiss_any p5 kn2 w5 Z5.head (by rw [kn2_GI.len]; decide) (by rw [kn2_GI.len]; decide)
  rw [kn2_mis, g5] at HM
  have H5 : Hid _ := And.intro bb5 (And.intro Z5 g5)
  clear HA0 H4 Z5 b5 bb5 g5
  go_wp2_with fail
  refine (Calls.mono HM.out) ?_
  rintro e w6 ⟨z, rfl, hz, hzn, b6⟩
  have bb6 := below_then H5.out.1 b6
  have Z6 := ((H5.out.2.1.fresh b6 (nuOb_ok hz) (fun k hk => by
    rcases hk with hk | hk
    · exact hzn k (by simpa [nuOb] using hk)
    · cases hk)).third).third
  have g5 := H5.out.2.2
  obtain ⟨za, zc, rfl, -, -, -⟩ := hz.open
  obtain ⟨u1, hu1, c1, -⟩ := pcs_at (Z6.each _ (List.mem_cons_of_mem _ (List.mem_cons_self ..))) 1 (by decide)
  obtain ⟨u1', hu1', ho1⟩ := (Z6.each _ (List.mem_cons_of_mem _ (List.mem_cons_self ..))).holds.each 1 (by rw [splL_len]; decide)
  rw [hu1] at hu1'
  cases hu1'
  obtain ⟨xa1, xn1, xc1, rfl⟩ := own_slice ho1
  have HA1 : Hid _ := addZ abc_img (m := kn2) Z6 1 (by decide) _ hu1 (.inr kn2_GI) (by rw [kn_ad.2]; decide)
  rw [g5] at HA1
  have H6 : Hid _ := And.intro bb6 trivial
  clear HM H5 Z6 b6 bb6 ho1 hu1 g5 hz hzn
  simp only [List.length_cons, List.length_nil, Nat.zero_add] at *
  go_wp2_with fail
  clear c1
  refine (Calls.mono HA1.out) ?_
  rintro e w7 ⟨rfl, p7, g7, Z7, b7⟩
  rw [show addP kn2 1 abc 2 1 = kn3 from rfl] at Z7
  have bb7 := H6.out.1.trans b7
  have hfl := kn3_GI.whole (by decide) kn3_all
  have HW : Hid _ := whole_yes p7 kn3 w7 Z7.head (by rw [kn3_GI.id]; decide) (by rw [kn3_GI.len]; decide) (by rw [kn3_GI.len]; decide) (Nat.le_trans (kn3_GI.lenOf_le (by decide)) (by decide)) kn3_all (by rw [hfl]; exact kn3_GI.sum)
  rw [hfl, g7] at HW
  have H7 : Hid _ := And.intro bb7 (Z7.each _ (List.mem_cons_of_mem _ (List.mem_cons_of_mem _ (List.mem_cons_self ..)))).holds
  clear HA1 H6 Z7 b7 bb7 hfl g7
  go_wp2_with fail
  refine (Calls.mono HW.out) ?_
  rintro e w8 ⟨y, rfl, o8, b8⟩
  obtain ⟨ya8, yn8, yc8, rfl, hcv⟩ := own7_strs o8
  rw [abc_str] at hcv
  have n8 : NOwn w8 (.slice za 1 zc) [1] := NOwn.later (show NOwn w7 _ _ from H7.out.2) b8
  have b9 : Below w8.heap.size w8 (w8.alloc (.cells #[.int .i64 1] 3)) := (Below.refl _ _).alloc (Nat.le_refl _) _
  have n9 : NOwn (w8.alloc (.cells #[.int .i64 1] 3)) (.slice (some ⟨w8.heap.size, 0, none⟩) 1 1) [1] := ⟨rfl, .inr ⟨w8.heap.size, 1, #[.int .i64 1], rfl, Nat.zero_le _, Blk.new' w8 3 [.int .i64 1], by decide, by decide, rfl, rfl⟩⟩
  have HSm : Hid _ := same07_yes _ _ [1] _ (n8.later b9) n9
  have H8 : Hid _ := And.intro (below_then H7.out.1 (below_then b8 b9)) (fun X (hX : Below (w8.alloc (.cells #[.int .i64 1] 3)).heap.size (w8.alloc (.cells #[.int .i64 1] 3)) X) => hcv X (below_then b9 hX))
  clear HW H7 o8 b8 hcv n8 b9 n9
  go_wp2_with fail
  generalize (w8.alloc (.cells #[.int .i64 1] 3)) = w9 at *
  refine (Calls.mono HSm.out) ?_
  rintro e w10 ⟨rfl, b10⟩
  have hcv := H8.out.2 w10 b10
  have F : Hid _ := below_then H8.out.1 b10
  clear H8 HSm b10
  go_wp2
  go_ret
  exact ⟨rfl, F.out⟩
end Go.Proofs.Ytdagekciipfnoaa

