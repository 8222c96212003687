/- Entries of terms; what must come of fixed calls. -/
import Derived.Test.YtmcljbpemninlaaEn19
namespace Go.Proofs.Ytmcljbpemninlaa
open Go.RowKit Go.Shelf
set_option linter.unusedVariables false
set_option maxRecDepth 4000

/-- an entry of a term -/
def tE (t : Int) : Ent := (1, t, [])
set_option maxHeartbeats 1000000 in
theorem terms9_any (b : Nat) (ts : List Int) (w : World) (hB : Blk w b 2 (ts.map (fun t => .int .i64 t))) (hts : ts.length ≤ 100) (h64 : ∀ t ∈ ts, I64 t) :
    Calls Try.prog 35 #[.slice (some ⟨b, 0, none⟩) ts.length ts.length] w fun e w' => ∃ a cap, e = .returned (.slice a ts.length cap) ∧ ts.length ≤ cap ∧ (a = none → cap = 0) ∧ EArgs w' a (ts.map tE) ∧ Below w.heap.size w w' := by
  have HB : Hid _ := And.intro hB h64
  have hts' : (ts.length : Int) ≤ 100 := by omega
  clear hB h64
  go_enter Try.func35, Try.ntmps35
  go_wp2_with fail
  go_loopw [3, 4] (fun v iv wr => ∃ (k : Nat) (u : Value), u = v ∧ k ≤ ts.length ∧ iv = .int .i64 k ∧ (∃ V vs, EsOwn wr w.heap.size u ((ts.map tE).take k) V vs) ∧ Below w.heap.size w wr) (fun _ iv _ => ts.length - (intOf iv).toNat)
  case atStart => exact ⟨0, _, rfl, Nat.zero_le _, rfl, ⟨[], [], EsOwn.nil _ _⟩, Below.refl _ _⟩
  case round =>
    obtain ⟨k, v, rfl, hk, rfl, ⟨V, vs, hown⟩, hb⟩ := hrel
    by_cases hlt : k < ts.length
    · have q1 : (k : Int) < (ts.length : Int) := by omega
      have c0 : wr.cell? ⟨b, k, none⟩ = some (.int .i64 ts[k]) := by
        have := (HB.out.1.laterB hb).cell (by rw [List.length_map]; unfold maxLen; omega) k (by rw [List.length_map]; exact hlt)
        rw [this, List.getElem?_map, List.getElem?_eq_getElem hlt]; rfl
      have htk : (ts.map tE).take (k + 1) = (ts.map tE).take k ++ [tE ts[k]] := by rw [List.take_succ_eq_append_getElem (by rw [List.length_map]; exact hlt), List.getElem_map]
      generalize ts[k] = t at *
      have b3 := box3_below wr (.int .i64 1) (.int .i64 t) (.slice none 0 0) 24
      have B3 : Blk (wr.alloc (.cells #[.int .i64 1, .int .i64 t, .slice none 0 0] 24)) wr.heap.size 24 [.int .i64 1, .int .i64 t, .slice none 0 0] := Blk.new' wr _ _
      have H3 : Hid _ := And.intro (hown.later b3) (And.intro B3 (And.intro (below_then hb b3) (And.intro htk (And.intro (show ((ts.map tE).take k).length ≤ 1000000 by rw [List.length_take, List.length_map]; omega) (And.intro (World.ownsRow.lt hown.own) (Nat.le_trans hb.size b3.size))))))
      clear hown hb b3 B3 htk
      go_wp2_with (at_builtin; refine wpList_append_ent _ rfl _ _ rfl w.heap.size v ((ts.map tE).take k) V vs rfl H3.out.1 wr.heap.size (tE t) none 0 rfl H3.out.2.1 (Nat.le_refl _) (.inl rfl) (fun _ => rfl) (fun z hz => by cases hz) H3.out.2.2.2.2.1 H3.out.2.2.2.2.2.2 ?_)
      rintro v' w5 V5 vs5 hown5 hg5
      have F : Hid _ := And.intro (show ∃ V vs, EsOwn w5 w.heap.size v' ((ts.map tE).take (k + 1)) V vs by rw [H3.out.2.2.2.1]; exact ⟨V5, vs5, hown5⟩) (H3.out.2.2.1.grown hg5 H3.out.2.2.2.2.2.2 (fun q hq => (H3.out.2.2.2.2.2.1 q hq).1))
      clear H3 hown5 hg5 c0
      go_wp2
      go_roundw
      case rel => exact ⟨k + 1, _, rfl, by omega, by go_num, F.out.1, F.out.2⟩
      case measure => simp [intOf]; omega
    · obtain rfl : k = ts.length := by omega
      have eT : (ts.map tE).take ts.length = ts.map tE := List.take_of_length_le (by rw [List.length_map]; exact Nat.le_refl _)
      rw [eT] at hown
      clear eT
      obtain ⟨a, cap, rfl, h1, h2, h3⟩ := hown.args (fun e he => by
        obtain ⟨t, ht, rfl⟩ := List.mem_map.1 he
        exact ⟨by unfold I64 tE; omega, HB.out.2 t ht, by simp [tE]⟩)
      rw [List.length_map] at h1 ⊢
      have F : Hid _ := And.intro h1 (And.intro h2 (And.intro h3 hb))
      clear hown h1 h2 h3 hb
      go_wp2
      go_ret
      exact ⟨a, cap, rfl, F.out.1, F.out.2.1, F.out.2.2.1, F.out.2.2.2⟩

/-- the log of the fixed calls -/
def m4 : Lm := ⟨0, 0, 7, [tE 1, tE 1, tE 2, tE 2]⟩
theorem m4_runs : m4.runK m4.l.length = [(1, 1), (3, 2)] := by decide +kernel
theorem m4_a : m4.meetsB 4 3 ([] : List Ent).length = false ∧ m4.back 4 = 2 := by decide +kernel
theorem m4_c : m4.meetsB 9 9 ([] : List Ent).length = false ∧ m4.back 9 = 4 := by decide +kernel
theorem m4_b : m4.meetsB 2 1 [tE 3].length = true ∧ m4.pass 2 [tE 3] = 0 := by decide +kernel
theorem m4_fits : m4.fits 2 [tE 3] := by unfold Lm.fits; decide +kernel
theorem m4_new : newB 0 0 7 = true ∧ goodB 0 [tE 1, tE 1, tE 2, tE 2] = true := by decide +kernel
theorem m4_wf : m4.Wf := logm_wf (a := 0) (t := 0) (k := 7) m4_new.1 (by decide) m4_new.2
theorem enJoin_any (g : Nat) (m : Lm) (n t : Int) (a : Option Addr) (cap : Nat) (l : List Ent) (w : World) (h : Lg w g m) (hw : m.Wf) (hn : I64 n) (hlen : l.length ≤ 140737488355328) (hlc : l.length ≤ cap) (hA : EArgs w a l) :
    Calls Try.prog 37 #[.pointer (some ⟨g, 0, none⟩), .int .i64 n, .int .i64 t, .slice a l.length cap] w fun r w' => JoinR w w' g m n t l r ∧ Below w.heap.size w w' := by
  cases hme : m.meetsB n t l.length with
  | false =>
    refine (enJoin_no g m n t a l.length cap w h hw hn hlen hme).mono ?_
    rintro e w' ⟨rfl, hb⟩
    exact ⟨.inl ⟨hme, rfl⟩, hb⟩
  | true => exact enJoin_yes g m n t a cap l w h hw hn hlen hlc hA hme
theorem box5_below (w : World) (p q r s t : Value) (T : TypeId) : Below w.heap.size w (w.alloc (.cells #[p, q, r, s, t] T)) := (Below.refl _ _).alloc (Nat.le_refl _) _
set_option maxHeartbeats 2000000 in
theorem known9_any (w : World) : Calls Try.prog 14 #[] w fun e w' => e = .returned (.bool true) ∧ Below w.heap.size w w' := by
  have B0 : Blk (w.alloc (.cells #[.int .i64 1, .int .i64 1, .int .i64 2, .int .i64 2] 2)) w.heap.size 2 ([1, 1, 2, 2].map (fun t : Int => .int .i64 t)) := Blk.new' w _ [.int .i64 1, .int .i64 1, .int .i64 2, .int .i64 2]
  have b0 : Below w.heap.size w (w.alloc (.cells #[.int .i64 1, .int .i64 1, .int .i64 2, .int .i64 2] 2)) := (Below.refl _ _).alloc (Nat.le_refl _) _
  have HT := terms9_any w.heap.size [1, 1, 2, 2] _ B0 (by decide) (by unfold I64; decide)
  have HX : Hid _ := b0
  clear B0 b0
  go_enter Try.func14, Try.ntmps14
  go_wp2_with fail
  refine HT.mono ?_
  rintro e w1 ⟨a1, cap1, rfl, hc1, -, hA1, b1⟩
  have hb1 := below_then HX.out b1
  have HL := log9_any 0 0 7 a1 4 cap1 [tE 1, tE 1, tE 2, tE 2] w1 rfl hc1 (by decide) hA1
  have H1 : Hid _ := hb1
  clear hb1 b1 hA1 HX HT
  go_wp2_with fail
  refine HL.mono ?_
  rintro e w2 ⟨(⟨-, -, -, g, rfl, hg, L2⟩ | ⟨hno, -⟩), b2⟩
  · have L2' : Lg w2 g m4 := L2
    have hb2 := below_then H1.out b2
    have HR := lawruns9_log g m4 w2 L2' m4_wf
    rw [m4_runs] at HR
    have H2 : Hid (Below w.heap.size w w2 ∧ Lg w2 g m4) := And.intro hb2 L2'
    clear hb2 b2 L2 L2' HL H1 hg
    go_wp2_with fail
    refine HR.mono ?_
    rintro e w3 ⟨v3, rfl, ho3, b3⟩
    have L3 := Lg.later H2.out.2 b3
    have hb3 := below_then H2.out.1 b3
    obtain ⟨ra, rc, rfl, hrc, hcell⟩ := RnOwn.open ho3
    obtain ⟨rb, hra, e0, e1⟩ := hcell 1 (by decide)
    subst hra
    have HJ := enJoin_no g m4 4 3 none 0 0 w3 L3 m4_wf (by unfold I64; omega) (by decide) m4_a.1
    rw [m4_a.2] at HJ
    simp only [joV, Option.map_none] at HJ
    have H3 : Hid (Below w.heap.size w w3 ∧ Lg w3 g m4) := And.intro hb3 L3
    clear hb3 b3 L3 HR H2 ho3 hcell
    go_wp2_with fail
    refine HJ.mono ?_
    rintro e w4 ⟨rfl, b4⟩
    have ba := box5_below w4 (.pointer none) (.bool false) (.int .i64 0) (.int .i64 0) (.int .i64 2) 72
    have Ba : Blk (w4.alloc (.cells #[.pointer none, .bool false, .int .i64 0, .int .i64 0, .int .i64 2] 72)) w4.heap.size 72 [.pointer none, .bool false, .int .i64 0, .int .i64 0, .int .i64 2] := Blk.new' w4 _ _
    have s5 : (w4.alloc (.cells #[.pointer none, .bool false, .int .i64 0, .int .i64 0, .int .i64 2] 72)).heap.size = w4.heap.size + 1 := by simp
    have H4 : Hid _ := And.intro (below_then (below_then H3.out.1 b4) ba) (And.intro (Lg.later (Lg.later H3.out.2 b4) ba) (And.intro Ba (And.intro (cell_later ba (cell_later b4 e0)) (And.intro (cell_later ba (cell_later b4 e1)) s5))))
    clear ba Ba b4 H3 HJ e0 e1 s5
    go_wp2_with fail
    generalize w4.alloc (.cells #[.pointer none, .bool false, .int .i64 0, .int .i64 0, .int .i64 2] 72) = w5 at *
    obtain ⟨hb5, L5, Ba, e0, e1, s5⟩ := H4.out
    have b6 : Below w5.heap.size w5 (w5.alloc (.cells #[.int .i64 3] 2)) := (Below.refl _ _).alloc (Nat.le_refl _) _
    have B6 : Blk (w5.alloc (.cells #[.int .i64 3] 2)) (w4.heap.size + 1) 2 ([3].map (fun t : Int => .int .i64 t)) := by rw [← s5]; exact Blk.new' w5 _ [.int .i64 3]
    refine (terms9_any (w4.heap.size + 1) [3] _ B6 (by decide) (by unfold I64; decide)).mono ?_
    rintro e w7 ⟨a7, cap7, rfl, hc7, -, hA7, b7⟩
    have hb7 := below_then (below_then hb5 b6) b7
    have L7 := Lg.later (Lg.later L5 b6) b7
    have HJ2 := enJoin_any g m4 2 1 a7 cap7 [tE 3] w7 L7 m4_wf (by unfold I64; omega) (by decide) hc7 hA7
    have H7 : Hid (Below w.heap.size w w7 ∧ Lg w7 g m4 ∧ Blk w7 w4.heap.size 72 [.pointer none, .bool false, .int .i64 0, .int .i64 0, .int .i64 2] ∧ w7.cell? ⟨rb, 1 * 2, none⟩ = some (.int .i64 3) ∧ w7.cell? ⟨rb, 1 * 2 + 1, none⟩ = some (.int .i64 2)) := ⟨hb7, L7, (Ba.laterB b6).laterB b7, cell_later b7 (cell_later b6 e0), cell_later b7 (cell_later b6 e1)⟩
    clear hb5 L5 Ba e0 e1 s5 b6 B6 hA7 b7 hb7 L7 H4
    go_wp2_with fail
    refine HJ2.mono ?_
    rintro e w8 ⟨hr8, b8⟩
    obtain ⟨g8, rfl⟩ : ∃ g8, e = .returned (joV (some g8) true 3 3 0) := by
      rcases hr8 with ⟨h, _⟩ | ⟨_, h, _⟩ | ⟨_, _, h, _⟩ | ⟨_, _, _, g', h, _⟩
      · rw [m4_b.1] at h; cases h
      · rw [m4_b.2] at h; cases h
      · exact absurd m4_fits h
      · rw [m4_b.2] at h; exact ⟨g', h⟩
    clear hr8 HJ2
    simp only [joV, Option.map_some]
    have bc := box5_below w8 (.pointer (some ⟨g8, 0, none⟩)) (.bool true) (.int .i64 3) (.int .i64 3) (.int .i64 0) 72
    have Bc : Blk (w8.alloc (.cells #[.pointer (some ⟨g8, 0, none⟩), .bool true, .int .i64 3, .int .i64 3, .int .i64 0] 72)) w8.heap.size 72 [.pointer (some ⟨g8, 0, none⟩), .bool true, .int .i64 3, .int .i64 3, .int .i64 0] := Blk.new' w8 _ _
    obtain ⟨hb7, L7, Ba, e0, e1⟩ := H7.out
    have H9 : Hid (Below w.heap.size w _ ∧ Lg _ g m4 ∧ Blk _ w4.heap.size 72 [.pointer none, .bool false, .int .i64 0, .int .i64 0, .int .i64 2] ∧ _ ∧ _ ∧ Blk _ w8.heap.size 72 _) := ⟨below_then (below_then hb7 b8) bc, Lg.later (Lg.later L7 b8) bc, (Ba.laterB b8).laterB bc, cell_later bc (cell_later b8 e0), cell_later bc (cell_later b8 e1), Bc⟩
    clear bc Bc hb7 L7 Ba e0 e1 b8 H7
    go_wp2_with fail
    generalize w8.alloc (.cells #[.pointer (some ⟨g8, 0, none⟩), .bool true, .int .i64 3, .int .i64 3, .int .i64 0] 72) = w9 at *
    obtain ⟨hb9, L9, Ba, e0, e1, Bc⟩ := H9.out
    have HJ3 := enJoin_no g m4 9 9 none 0 0 w9 L9 m4_wf (by unfold I64; omega) (by decide) m4_c.1
    rw [m4_c.2] at HJ3
    simp only [joV, Option.map_none] at HJ3
    refine HJ3.mono ?_
    rintro e w10 ⟨rfl, b10⟩
    have bd := box5_below w10 (.pointer none) (.bool false) (.int .i64 0) (.int .i64 0) (.int .i64 4) 72
    obtain ⟨⟨p0, p1, p2, p3, p4⟩, -⟩ := eblk5 ((Ba.laterB b10).laterB bd)
    obtain ⟨⟨r0, r1, r2, r3, r4⟩, -⟩ := eblk5 ((Bc.laterB b10).laterB bd)
    have y0 := cell_later bd (cell_later b10 e0)
    have y1 := cell_later bd (cell_later b10 e1)
    have F : Hid _ := below_then (below_then hb9 b10) bd
    clear hb9 L9 Ba e0 e1 Bc HJ3 b10 bd H9
    simp only [Nat.one_mul] at y0 y1
    go_wp2
    go_ret
    exact ⟨rfl, F.out⟩
  · exact absurd ⟨m4_new.1, by decide, m4_new.2⟩ hno
end Go.Proofs.Ytmcljbpemninlaa
