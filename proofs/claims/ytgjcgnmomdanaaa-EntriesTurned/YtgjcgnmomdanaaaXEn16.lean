/- Entries that are joined to a log: the call. -/
import Derived.Test.YtgjcgnmomdanaaaXEn12
import Derived.Deep.CutRange
namespace Go.Proofs.Ytgjcgnmomdanaaa
open Go.RowKit
set_option linter.unusedVariables false
set_option maxRecDepth 20000

def jo0 : Array Value := #[.pointer none, .bool false, .int .i64 0, .int .i64 0, .int .i64 0]
set_option maxHeartbeats 1000000 in
theorem enJoin_no (g : Nat) (m : Lm) (n t : Int) (a : Option Addr) (len cap : Nat) (w : World) (h : Lg w g m) (hw : m.Wf) (hn : I64 n) (hlen : len ≤ 140737488355328) (hme : m.meetsB n t len = false) :
    Calls Try.prog 42 #[.pointer (some ⟨g, 0, none⟩), .int .i64 n, .int .i64 t, .slice a len cap] w fun r w' => r = .returned (joV none false 0 0 (m.back n)) ∧ Below w.heap.size w w' := by
  have A1 : Below w.heap.size w (w.alloc (.cells #[.pointer none, .bool false, .int .i64 0, .int .i64 0, .int .i64 0] 78)) := (Below.refl _ _).alloc (Nat.le_refl _) _
  have B1 : Blk (w.alloc (.cells #[.pointer none, .bool false, .int .i64 0, .int .i64 0, .int .i64 0] 78)) w.heap.size 78 [.pointer none, .bool false, .int .i64 0, .int .i64 0, .int .i64 0] := Blk.new' w _ _
  have HM := enmeets_any g m n t len _ (h.later A1) hw hn hlen
  rw [hme] at HM
  have HB : Hid _ := fun W (hW : Below w.heap.size w W) => enback_any g m n W (h.later hW) hw hn
  have HX : Hid _ := And.intro A1 B1
  clear A1 B1 h hw hn hme
  generalize m.back n = bk at *
  go_enter Try.func42, Try.ntmps42
  go_wp2_with fail
  refine HM.mono ?_
  rintro e w1 ⟨rfl, b1⟩
  have hb1 := below_then HX.out.1 b1
  have B2 := HX.out.2.laterB b1
  have HX2 : Hid _ := And.intro hb1 B2
  clear hb1 B2 b1 HX HM
  go_wp2_with fail
  refine (HB.out _ HX2.out.1).mono ?_
  rintro e w2 ⟨rfl, b2⟩
  have hb2 := below_then HX2.out.1 b2
  have B3 := HX2.out.2.laterB b2
  obtain ⟨⟨z0, z1, z2, z3, z4⟩, g0, g1, g2, g3, g4⟩ := eblk5 B3
  have HK : Hid _ := fun x y z u v : Value => eset5 B3 x y z u v w.heap.size w hb2 (Nat.le_refl _) hb2.size
  clear hb2 B3 b2 HX2 HB
  go_wp2
  have H1 := HK.out (.pointer none) (.bool false) (.int .i64 0) (.int .i64 0) (.int .i64 bk)
  generalize (((((w2.setCell ⟨w.heap.size, 0, none⟩ (.pointer none)).setCell ⟨w.heap.size, 1, none⟩ (.bool false)).setCell ⟨w.heap.size, 2, none⟩ (.int .i64 0)).setCell ⟨w.heap.size, 3, none⟩ (.int .i64 0)).setCell ⟨w.heap.size, 4, none⟩ (.int .i64 bk)) = wf at *
  obtain ⟨⟨y0, y1, y2, y3, y4⟩, -⟩ := eblk5 H1.1
  refine bodyPost_ret (v := joV none false 0 0 bk) (by simp [results, Try.results42, go_sem, y0, y1, y2, y3, y4, joV]) rfl ?_
  exact ⟨rfl, H1.2⟩

set_option maxHeartbeats 4000000 in
theorem enJoin_yes (g : Nat) (m : Lm) (n t : Int) (a : Option Addr) (cap : Nat) (l : List Ent) (w : World) (h : Lg w g m) (hw : m.Wf) (hn : I64 n) (hlen : l.length ≤ 140737488355328) (hlc : l.length ≤ cap) (hA : EArgs w a l) (hme : m.meetsB n t l.length = true) :
    Calls Try.prog 42 #[.pointer (some ⟨g, 0, none⟩), .int .i64 n, .int .i64 t, .slice a l.length cap] w fun r w' => JoinR w w' g m n t l r ∧ Below w.heap.size w w' := by
  have hbd := meets_bd hw hlen hme
  have hpl := hw.place
  have hfu := hw.full
  obtain ⟨j0, hj0⟩ : ∃ j0, j0 = m.low n := ⟨_, rfl⟩
  rw [← hj0] at hbd
  have hj0' : (n < m.fl → n + j0 = m.fl) ∧ (¬ n < m.fl → j0 = 0) := by rw [hj0]; unfold Lm.low; omega
  have hjl : j0 ≤ l.length := by omega
  have hpass : m.pass n l = j0 + m.skip (n + j0) (l.drop j0) := by unfold Lm.pass; rw [← hj0]
  have A1 : Below w.heap.size w (w.alloc (.cells #[.pointer none, .bool false, .int .i64 0, .int .i64 0, .int .i64 0] 78)) := (Below.refl _ _).alloc (Nat.le_refl _) _
  have B1 : Blk (w.alloc (.cells #[.pointer none, .bool false, .int .i64 0, .int .i64 0, .int .i64 0] 78)) w.heap.size 78 [.pointer none, .bool false, .int .i64 0, .int .i64 0, .int .i64 0] := Blk.new' w _ _
  have HM := enmeets_any g m n t l.length _ (h.later A1) hw hn hlen
  rw [hme] at HM
  have HH : Hid _ := And.intro h (And.intro hw (And.intro hA (And.intro hme hpass)))
  have HX : Hid _ := And.intro A1 B1
  have HJ : Hid _ := And.intro hj0' (And.intro hbd hjl)
  have q0 : -9223372036854775808 ≤ n ∧ n ≤ 1125899906842624 + 4096 := by unfold I64 at hn; omega
  have q1 : -140737488355328 ≤ n := by omega
  clear A1 B1 h hw hn hme hA hpass hj0 hj0' hbd hjl
  go_enter Try.func42, Try.ntmps42
  go_wp2_with fail
  refine HM.mono ?_
  rintro e w1 ⟨rfl, b1⟩
  have hb1 := below_then HX.out.1 b1
  have B2 := HX.out.2.laterB b1
  have HX2 : Hid _ := And.intro hb1 B2
  obtain ⟨ga, gc, c0, -⟩ := (HH.out.1.later hb1).cells
  clear hb1 B2 b1 HX HM
  go_upto_region 6 with fail
  go_cut [10] from 31 to 39 (fun fv wx => fv = .int .i64 (n + j0 + 1) ∧ wx = w1)
  case first =>
    obtain ⟨hj0', hbd, hjl⟩ := HJ.out
    have HZ : Hid _ := And.intro hj0' hbd
    clear HH HX2 HJ hj0' hbd hjl
    by_cases hlow : n < m.fl
    · go_wp2
      go_meet
      exact ⟨val_int (by have := HZ.out.1.1 hlow; omega), rfl⟩
    · go_wp2
      go_meet
      exact ⟨val_int (by have := HZ.out.1.2 hlow; omega), rfl⟩
  case rest =>
  obtain ⟨rfl, hwc⟩ := hcut
  obtain rfl := hwc.symm
  clear hwc
  go_wp2_with fail
  go_loopw [10] (fun fv wr => ∃ (j : Nat) (f : Int), f = n + j + 1 ∧ fv = .int .i64 f ∧ j0 ≤ j ∧ j ≤ l.length ∧ m.skip (n + j0) (l.drop j0) = (j - j0) + m.skip (n + j) (l.drop j) ∧ ((m.fl : Int) ≤ n + j ∧ n + j ≤ (m.fl : Int) + m.l.length) ∧ Below w.heap.size w wr ∧ Blk wr w.heap.size 78 [.pointer none, .bool false, .int .i64 0, .int .i64 0, .int .i64 0]) (fun fv _ => (n + l.length + 1 - intOf fv).toNat)
  case atStart =>
    obtain ⟨hj0', hbd, hjl⟩ := HJ.out
    refine ⟨j0, n + j0 + 1, rfl, by go_num, Nat.le_refl _, hjl, by omega, ?_, HX2.out.1, HX2.out.2⟩
    by_cases hlow : n < m.fl
    · have := hj0'.1 hlow; omega
    · have := hj0'.2 (by omega); omega
  case round =>
    obtain ⟨j, f, hf, rfl, hj1, hj2, hsk, hpl2, hbw, hBr⟩ := hrel
    have hpass := HH.out.2.2.2.2
    by_cases hlt : j < l.length
    · obtain ⟨k, hk, hkl⟩ : ∃ k : Nat, n + j = (m.fl : Int) + k ∧ k ≤ m.l.length := ⟨(n + j - m.fl).toNat, by omega, by omega⟩
      obtain ⟨p, off, rfl, hE⟩ := (HH.out.2.2.1.later hbw).at j hlt
      have e1 := hE.term
      have HO := enholds_any g m f l[j].2.1 wr (HH.out.1.later hbw) HH.out.2.1 (by unfold I64; omega)
      have hdr : l.drop j = l[j] :: l.drop (j + 1) := List.drop_eq_getElem_cons hlt
      have hsk1 : m.skip (n + j) (l.drop j) = if m.holdsB f l[j].2.1 = true then m.skip (n + (j + 1 : Nat)) (l.drop (j + 1)) + 1 else 0 := by
        rw [hdr, Lm.skip, ← hf, show n + ((j + 1 : Nat) : Int) = f by omega]
      have q2 : f - n - 1 = j := by omega
      have q3 : f ≤ n + (l.length : Int) := by omega
      have q4 : -9223372036854775808 ≤ f ∧ f ≤ 9223372036854775807 := by omega
      have q5 : n < f := by omega
      have q6 : (j : Int) < (l.length : Int) := by omega
      have HF : Hid _ := And.intro hf (And.intro hk hkl)
      clear hE
      cases hho : m.holdsB f l[j].2.1 with
      | true =>
        have hin := holds_has hho
        rw [hho] at HO hsk1
        rw [if_pos rfl] at hsk1
        have F : Hid _ := And.intro hj1 (And.intro (show m.skip (n + j0) (l.drop j0) = (j + 1 - j0) + m.skip (n + (j + 1 : Nat)) (l.drop (j + 1)) by omega) (And.intro hbw (And.intro hBr hin)))
        clear hsk hsk1 hbw hBr hin hho hdr hf hk hkl hpl2 hpass
        generalize l[j].2.1 = u at *
        go_wp2_with fail
        refine HO.mono ?_
        rintro e w2 ⟨rfl, b2⟩
        obtain ⟨f1, f2, f3, f4, f5⟩ := F.out
        have G : Hid _ := And.intro f1 (And.intro f2 (And.intro (below_then f3 b2) (And.intro (f4.laterB b2) f5)))
        clear F f1 f2 f3 f4 f5 b2 HO e1
        go_wp2
        go_roundw
        case rel =>
          obtain ⟨f1, f2, f3, f4, f5⟩ := G.out
          have := HF.out.1
          exact ⟨j + 1, f + 1, by omega, by go_num, by omega, by omega, f2, by omega, f3, f4⟩
        case measure => simp [intOf]; omega
      | false =>
        rw [hho] at HO hsk1
        rw [if_neg (by decide)] at hsk1
        have hpj : m.pass n l = j := by omega
        have htn : (n + (j : Int) - m.fl).toNat = k := by omega
        have hme := HH.out.2.2.2.1
        have hAr := HH.out.2.2.1.later hbw
        have F : Hid _ := And.intro hpj (And.intro htn (And.intro hme (And.intro hbw hBr)))
        clear hsk hsk1 hbw hBr hho hdr hf hk hkl hpl2 hpass hpj htn hme hAr
        obtain ⟨u, hu⟩ : ∃ u, u = l[j].2.1 := ⟨_, rfl⟩
        rw [← hu] at HO e1
        clear hu
        go_wp2_with fail
        refine HO.mono ?_
        rintro e w2 ⟨rfl, b2⟩
        obtain ⟨f1, f2, f3, f4, f5⟩ := F.out
        have hb2 := below_then f4 b2
        have HR := enreplacing_any g m f k (some ((⟨p, off, none⟩ : Addr).add (j * 3))) (cap - j) (l.drop j) w2 (HH.out.1.later hb2) HH.out.2.1 HF.out.2.2 (by have := HF.out.1; have := HF.out.2.1; omega) (by rw [List.length_drop]; omega) (by rw [List.length_drop]; omega) ((HH.out.2.2.1.later hb2).drop j)
        have hld : (l.drop j).length = l.length - j := List.length_drop ..
        rw [hld] at HR
        have ead : (⟨p, off, none⟩ : Addr).add (j * 3) = ⟨p, off + j * 3, none⟩ := by unfold Addr.add; split <;> simp_all
        rw [ead] at HR
        have q7 : ¬ cap = j := by omega
        have q8 : (l.length : Int) ≤ (cap : Int) := by omega
        have G : Hid _ := And.intro f1 (And.intro f2 (And.intro f3 (And.intro hb2 (And.intro (f5.laterB b2) (And.intro hld ead)))))
        clear F f1 f2 f3 f4 f5 b2 HO e1 hb2 hld ead
        go_wp2_with fail
        refine HR.mono ?_
        rintro e w3 ⟨(⟨er, hbad, hne, rfl⟩ | ⟨hle, hgd, g', rfl, hg', Lr⟩), b3⟩
        · obtain ⟨f1, f2, f3, f4, f5, hld, ead⟩ := G.out
          have hb3 := below_then f4 b3
          have B3 := f5.laterB b3
          obtain ⟨⟨z0, z1, z2, z3, z4⟩, g0, g1, g2, g3, g4⟩ := eblk5 B3
          have hnf : ¬ m.fits n l := by
            rintro ⟨h1, h2⟩
            rw [f1, f2] at h1 h2
            rcases hbad with h | h
            · omega
            · rw [h] at h2; cases h2
          have HK : Hid _ := fun x y z u v : Value => eset5 B3 x y z u v w.heap.size w hb3 (Nat.le_refl _) hb3.size
          have HN : Hid _ := And.intro hnf (And.intro f1 f3)
          clear f1 f2 f3 f4 f5 hld ead hb3 B3 b3 hnf hbad HR G
          go_wp2
          have H1 := HK.out (.pointer none) (.bool false) (.int .i64 0) (.int .i64 0) (.int .i64 (f - 1))
          have hsz := eset5_size w3 w.heap.size (.pointer none) (.bool false) (.int .i64 0) (.int .i64 0) (.int .i64 (f - 1))
          have hbl := fun k hk => eset5_block w3 w.heap.size (.pointer none) (.bool false) (.int .i64 0) (.int .i64 0) (.int .i64 (f - 1)) k hk
          generalize (((((w3.setCell ⟨w.heap.size, 0, none⟩ (.pointer none)).setCell ⟨w.heap.size, 1, none⟩ (.bool false)).setCell ⟨w.heap.size, 2, none⟩ (.int .i64 0)).setCell ⟨w.heap.size, 3, none⟩ (.int .i64 0)).setCell ⟨w.heap.size, 4, none⟩ (.int .i64 (f - 1))) = wf at *
          obtain ⟨⟨y0, y1, y2, y3, y4⟩, -⟩ := eblk5 H1.1
          refine bodyPost_ret (v := joV none false 0 0 (f - 1)) (by simp [results, Try.results42, go_sem, y0, y1, y2, y3, y4, joV]) rfl ?_
          refine ⟨.inr (.inr (.inl ⟨HN.out.2.2, by rw [HN.out.2.1]; exact hlt, HN.out.1, ?_⟩)), H1.2⟩
          have := HF.out.1
          rw [HN.out.2.1, show n + (j : Int) = f - 1 by omega]
        · obtain ⟨f1, f2, f3, f4, f5, hld, ead⟩ := G.out
          have hb3 := below_then f4 b3
          have B3 := f5.laterB b3
          obtain ⟨⟨z0, z1, z2, z3, z4⟩, g0, g1, g2, g3, g4⟩ := eblk5 B3
          have hfit : m.fits n l := by
            unfold Lm.fits
            rw [f1, f2]
            exact ⟨hle, hgd⟩
          have hjn : m.joined n l = (m.upto k).with (l.drop j) := by unfold Lm.joined; rw [f1, f2]
          have hgw : w.heap.size < g' := by have := f4.size; have := HX2.out.2.lt; have := f5.lt; omega
          have HK : Hid _ := fun x y z u v : Value => eset5 B3 x y z u v w.heap.size w hb3 (Nat.le_refl _) hb3.size
          have HN : Hid _ := And.intro hfit (And.intro f1 (And.intro f3 (And.intro hjn (And.intro Lr (And.intro hgw B3)))))
          clear f1 f2 f3 f4 f5 hld ead hb3 B3 b3 hfit hjn hgw Lr HR G hg' hgd hle
          go_wp2
          have H1 := HK.out (.pointer (some ⟨g', 0, none⟩)) (.bool true) (.int .i64 (n + l.length)) (.int .i64 f) (.int .i64 0)
          have hsz := eset5_size w3 w.heap.size (.pointer (some ⟨g', 0, none⟩)) (.bool true) (.int .i64 (n + l.length)) (.int .i64 f) (.int .i64 0)
          have hbl := fun k hk => eset5_block w3 w.heap.size (.pointer (some ⟨g', 0, none⟩)) (.bool true) (.int .i64 (n + l.length)) (.int .i64 f) (.int .i64 0) k hk
          generalize (((((w3.setCell ⟨w.heap.size, 0, none⟩ (.pointer (some ⟨g', 0, none⟩))).setCell ⟨w.heap.size, 1, none⟩ (.bool true)).setCell ⟨w.heap.size, 2, none⟩ (.int .i64 (n + l.length))).setCell ⟨w.heap.size, 3, none⟩ (.int .i64 f)).setCell ⟨w.heap.size, 4, none⟩ (.int .i64 0)) = wf at *
          obtain ⟨⟨y0, y1, y2, y3, y4⟩, -⟩ := eblk5 H1.1
          refine bodyPost_ret (v := joV (some g') true (n + l.length) f 0) (by simp [results, Try.results42, go_sem, y0, y1, y2, y3, y4, joV]) rfl ?_
          refine ⟨.inr (.inr (.inr ⟨HN.out.2.2.1, by rw [HN.out.2.1]; exact hlt, HN.out.1, g', ?_, Nat.le_of_lt HN.out.2.2.2.2.2.1, ?_⟩)), H1.2⟩
          · rw [HN.out.2.1, ← HF.out.1]
          · rw [HN.out.2.2.2.1]; exact Lg.stay HN.out.2.2.2.2.1 w.heap.size _ HN.out.2.2.2.2.2.2 (Nat.ne_of_gt HN.out.2.2.2.2.2.1) hbl
    · obtain rfl : j = l.length := by omega
      have hz : m.skip (n + (l.length : Int)) (l.drop l.length) = 0 := by rw [List.drop_length]; rfl
      have hpj : m.pass n l = l.length := by omega
      have q3 : ¬ f ≤ n + (l.length : Int) := by omega
      have q4 : -9223372036854775808 ≤ f ∧ f ≤ 9223372036854775807 := by omega
      obtain ⟨⟨z0, z1, z2, z3, z4⟩, g0, g1, g2, g3, g4⟩ := eblk5 hBr
      have HK : Hid _ := fun x y z u v : Value => eset5 hBr x y z u v w.heap.size w hbw (Nat.le_refl _) hbw.size
      have HN : Hid _ := And.intro hpj HH.out.2.2.2.1
      clear hz hpj hsk hpl2 hbw hBr hf hpass
      go_wp2
      have H1 := HK.out (.pointer (some ⟨g, 0, none⟩)) (.bool true) (.int .i64 (n + l.length)) (.int .i64 0) (.int .i64 0)
      have hsz := eset5_size wr w.heap.size (.pointer (some ⟨g, 0, none⟩)) (.bool true) (.int .i64 (n + l.length)) (.int .i64 0) (.int .i64 0)
      have hbl := fun k hk => eset5_block wr w.heap.size (.pointer (some ⟨g, 0, none⟩)) (.bool true) (.int .i64 (n + l.length)) (.int .i64 0) (.int .i64 0) k hk
      generalize (((((wr.setCell ⟨w.heap.size, 0, none⟩ (.pointer (some ⟨g, 0, none⟩))).setCell ⟨w.heap.size, 1, none⟩ (.bool true)).setCell ⟨w.heap.size, 2, none⟩ (.int .i64 (n + l.length))).setCell ⟨w.heap.size, 3, none⟩ (.int .i64 0)).setCell ⟨w.heap.size, 4, none⟩ (.int .i64 0)) = wf at *
      obtain ⟨⟨y0, y1, y2, y3, y4⟩, -⟩ := eblk5 H1.1
      refine bodyPost_ret (v := joV (some g) true (n + l.length) 0 0) (by simp [results, Try.results42, go_sem, y0, y1, y2, y3, y4, joV]) rfl ?_
      exact ⟨.inr (.inl ⟨HN.out.2, HN.out.1, rfl⟩), H1.2⟩
end Go.Proofs.Ytgjcgnmomdanaaa

