/- The walk of TextParts. -/
import Derived.Test.YtligmiajlbjecaaDoorXTxL3
namespace Go.Proofs.YtligmiajlbjecaaDoor
open Go.RowKit
set_option linter.unusedVariables false
set_option linter.unusedSimpArgs false
set_option maxRecDepth 8000

theorem pri_app18 {K : Kd Pr} {w w1 : World} {v x : Value} {l m : List Pr} (h : PrI K w w1 v l) (hK : K.Ok) (hx : GAt K w1 x m) (h1 : l.length + m.length ≤ 140737488355328) (h2 : (l.length + m.length) * K.bs ≤ 140737488355328) :
    ∃ v2 w2, (Builtin.append_ #[K.T, K.T] K.T #[v, x]).run Tryd.prog w1 = .ok v2 w2 ∧ PrI K w w2 v2 (l ++ m) := by
  obtain ⟨⟨q, hq, hb⟩, bel⟩ := h
  obtain ⟨v2, w2, q2, hr, ho, hg, hor⟩ := hq.appendC hK hx h1 h2 K.T
  refine ⟨v2, w2, hr, ⟨q2, ho, fun b hb2 => ?_⟩, bel.grown hg bel.size (fun k e => hb k e)⟩
  rcases hor b hb2 with e | e
  · exact hb b e
  · have := bel.size; omega
theorem mkS_app (a b : List UInt8) : mkS (a ++ b) = mkS a ++ mkS b := by
  have h : (mkS a ++ mkS b).data.toList = a ++ b := by
    rw [ByteArray.data_append, Array.toList_append, mkS_list, mkS_list]
  rw [← mkS_back (mkS a ++ mkS b), h]
theorem str_app18 (x y : List (BitVec 8)) : str (x ++ y) = str x ++ str y := by
  rw [str_us, str_us, str_us, ← mkS_app]
  unfold us
  rw [List.map_append]
theorem puR18_none {l : List Pr} (h : (puR18 l).2 ≠ 0) : (puR18 l).1 = [] ∧ (64 < l.length ∨ l.all canP = false) := by
  unfold puR18 at *
  split
  · rename_i h64; exact ⟨rfl, .inl h64⟩
  · rename_i h64
    rw [if_neg h64] at h
    split
    · rename_i ha; rw [if_pos ha] at h; exact absurd rfl h
    · rename_i ha; exact ⟨rfl, .inr (by simpa using ha)⟩
theorem puR18_bad {l : List Pr} (h : 64 < l.length ∨ l.all canP = false) : ∃ e, puR18 l = ([], e) ∧ ¬ e = 0 ∧ (64 < l.length → e = 3) := by
  unfold puR18
  split
  · exact ⟨3, rfl, by decide, fun _ => rfl⟩
  · rename_i h64
    rcases h with h | h
    · exact absurd h h64
    · rw [if_neg (by rw [h]; decide)]
      exact ⟨1, rfl, by decide, fun h => absurd h h64⟩
theorem pu_parts_no {l m : List Pr} (h : (puR18 l).2 ≠ 0 ∨ (puR18 m).2 ≠ 0) : ∃ e, puR18 (l ++ m) = ([], e) ∧ ¬ e = 0 := by
  have key : 64 < (l ++ m).length ∨ (l ++ m).all canP = false := by
    rw [List.length_append, List.all_append]
    rcases h with h | h
    · rcases (puR18_none h).2 with h | h
      · exact .inl (by omega)
      · exact .inr (by rw [h]; rfl)
    · rcases (puR18_none h).2 with h | h
      · exact .inl (by omega)
      · exact .inr (by rw [h]; simp)
  obtain ⟨e, h1, h2, -⟩ := puR18_bad key
  exact ⟨e, h1, h2⟩
theorem pu_parts_big {l m : List Pr} (h : 64 < l.length + m.length) : puR18 (l ++ m) = ([], 3) := by
  obtain ⟨e, h1, -, h3⟩ := puR18_bad (l := l ++ m) (.inl (by rw [List.length_append]; exact h))
  rw [h1, h3 (by rw [List.length_append]; exact h)]
theorem pu_parts_yes {l m : List Pr} {x y : List (BitVec 8)} (h1 : puR18 l = (x, 0)) (h2 : puR18 m = (y, 0)) (h : ¬ 64 < l.length + m.length) : puR18 (l ++ m) = (x ++ y, 0) := by
  have key : ∀ {l : List Pr} {x : List (BitVec 8)}, puR18 l = (x, 0) → l.all canP = true ∧ x = puB l := by
    intro l x h
    unfold puR18 at h
    split at h
    · cases h
    · split at h
      · rename_i ha; cases h; exact ⟨ha, rfl⟩
      · cases h
  obtain ⟨a1, e1⟩ := key h1
  obtain ⟨a2, e2⟩ := key h2
  unfold puR18
  rw [List.length_append, if_neg h, List.all_append, a1, a2, e1, e2]
  simp [puB]
set_option maxHeartbeats 16000000 in
theorem textParts_walk (a0 : Option Addr) (len0 cap0 : Nat) (l : List Pr) (a1 : Option Addr) (len1 cap1 : Nat) (m : List Pr) (w : World) (hP : PowT w) (B0 : PrArg w a0 len0 cap0 l) (B1 : PrArg w a1 len1 cap1 m) (S0 : len0 ≤ 1048576) (S1 : len1 ≤ 1048576) :
    Calls Tryd.prog 8 #[.slice a0 len0 cap0, .slice a1 len1 cap1] w fun e w' => e = .returned (.bool true) ∧ Below w.heap.size w w' := by
  obtain ⟨hlen0, hA0, hf0, hs0⟩ := B0
  obtain ⟨hlen1, hA1, hf1, hs1⟩ := B1
  have HA : Hid _ := And.intro hA0 (And.intro hA1 (And.intro hlen0 (And.intro hlen1 (And.intro hf0 hf1))))
  have HP : Hid _ := hP
  have HPb : Hid _ := And.intro (fun h => pu_parts_no (l := l) (m := m) h) (And.intro (fun h => pu_parts_big (l := l) (m := m) h) (fun x y h1 h2 h3 => pu_parts_yes (l := l) (m := m) (x := x) (y := y) h1 h2 h3))
  rw [← hlen0] at hA0
  rw [← hlen1] at hA1
  obtain ⟨v1, w1, r1, I1⟩ := pri_app18 (PrI.nil kRp w) kRp_ok HA.out.1 (by simp; omega) (by simp [kRp]; omega)
  rw [List.nil_append] at I1
  rw [← hlen0] at r1
  obtain ⟨v2, w2, r2, I2⟩ := pri_app18 I1 kRp_ok (gat_later I1.bel HA.out.2.1) (by omega) (by simp [kRp]; omega)
  rw [← hlen1] at r2
  obtain ⟨a2, c2, ez, hA2⟩ := I2.at kRp_ok
  rw [List.length_append, ← hlen0, ← hlen1] at ez
  subst ez
  obtain ⟨n1, nn1, nc1, ez1⟩ := I1.slice kRp_ok
  subst ez1
  have H2 : Hid _ := And.intro I2.bel hA2
  clear hA0 hA1 hs0 hs1 hP I1 I2 hA2 hf0 hf1 hlen0 hlen1
  go_enter Tryd.func8, Tryd.ntmps8
  go_wp2_with (first | (at_builtin; refine wpList_run_app rfl _ _ 22 22 rfl _ _ rfl rfl r1 ?_) | (at_builtin; refine wpList_run_app rfl _ _ 22 22 rfl _ _ rfl rfl r2 ?_))
  clear r1 r2
  have HG0 := given18_any a0 cap0 l w2 (gat_later H2.out.1 HA.out.1) (by have := HA.out.2.2.2.2; (try simp only [List.length_append]); have := HA.out.2.2.1; have := HA.out.2.2.2.1; omega)
  (try rw [← HA.out.2.2.1] at HG0)
  have HG : Hid _ := HG0
  clear HG0
  refine (Calls.mono (HG.out)) ?_
  rintro e w3 ⟨vg, rfl, Ig⟩
  clear HG
  obtain ⟨ag, cg, ez, hAg⟩ := Ig.at kPr_ok
  subst ez
  have HK0 := tPut_any ag cg l w3 hAg (by (try simp only [List.length_append]); have := HA.out.2.2.1; have := HA.out.2.2.2.1; omega)
  (try rw [← HA.out.2.2.1] at HK0)
  (try rw [← HA.out.2.2.1] at ⊢)
  have HK : Hid _ := HK0
  have H4c : Hid _ := Ig.bel
  have H4b : Hid _ := below_then H2.out.1 Ig.bel
  clear HK0 Ig hAg
  go_wp2_with fail
  refine (Calls.mono (HK.out)) ?_
  rintro e w4 ⟨z4, rfl, oz, bz⟩
  clear HK
  have H4 : Hid _ := And.intro (below_then H4b.out bz) (And.intro oz (gat_later (below_then H4c.out bz) H2.out.2))
  clear oz bz H4b H4c H2
  have HG0 := given18_any a1 cap1 m w4 (gat_later H4.out.1 HA.out.2.1) (by have := HA.out.2.2.2.2; (try simp only [List.length_append]); have := HA.out.2.2.1; have := HA.out.2.2.2.1; omega)
  (try rw [← HA.out.2.2.2.1] at HG0)
  have HG : Hid _ := HG0
  clear HG0
  go_wp2_with fail
  refine (Calls.mono (HG.out)) ?_
  rintro e w5 ⟨vg, rfl, Ig⟩
  clear HG
  obtain ⟨ag, cg, ez, hAg⟩ := Ig.at kPr_ok
  subst ez
  have HK0 := tPut_any ag cg m w5 hAg (by (try simp only [List.length_append]); have := HA.out.2.2.1; have := HA.out.2.2.2.1; omega)
  (try rw [← HA.out.2.2.2.1] at HK0)
  (try rw [← HA.out.2.2.2.1] at ⊢)
  have HK : Hid _ := HK0
  have H6c : Hid _ := Ig.bel
  have H6b : Hid _ := below_then H4.out.1 Ig.bel
  clear HK0 Ig hAg
  go_wp2_with fail
  refine (Calls.mono (HK.out)) ?_
  rintro e w6 ⟨z6, rfl, oz, bz⟩
  clear HK
  have H6 : Hid _ := And.intro (below_then H6b.out bz) (And.intro (Own.later (Own.later H4.out.2.1 H6c.out) bz) (And.intro oz (gat_later (below_then H6c.out bz) H4.out.2.2)))
  clear oz bz H6b H6c H4
  have HG0 := given18_any a2 c2 (l ++ m) w6 (by have h := H6.out.2.2.2; rw [List.length_append, ← HA.out.2.2.1, ← HA.out.2.2.2.1]; exact h) (by have := HA.out.2.2.2.2; (try simp only [List.length_append]); have := HA.out.2.2.1; have := HA.out.2.2.2.1; omega)
  (try rw [List.length_append, ← HA.out.2.2.1, ← HA.out.2.2.2.1] at HG0)
  have HG : Hid _ := HG0
  clear HG0
  go_wp2_with fail
  refine (Calls.mono (HG.out)) ?_
  rintro e w7 ⟨vg, rfl, Ig⟩
  clear HG
  obtain ⟨ag, cg, ez, hAg⟩ := Ig.at kPr_ok
  subst ez
  have HK0 := tPut_any ag cg (l ++ m) w7 hAg (by (try simp only [List.length_append]); have := HA.out.2.2.1; have := HA.out.2.2.2.1; omega)
  (try rw [List.length_append, ← HA.out.2.2.1, ← HA.out.2.2.2.1] at HK0)
  (try rw [List.length_append, ← HA.out.2.2.1, ← HA.out.2.2.2.1] at ⊢)
  have HK : Hid _ := HK0
  have H8c : Hid _ := Ig.bel
  have H8b : Hid _ := below_then H6.out.1 Ig.bel
  clear HK0 Ig hAg
  go_wp2_with fail
  refine (Calls.mono (HK.out)) ?_
  rintro e w8 ⟨z8, rfl, oz, bz⟩
  clear HK
  have H8 : Hid _ := And.intro (below_then H8b.out bz) (And.intro (Own.later (Own.later H6.out.2.1 H8c.out) bz) (And.intro (Own.later (Own.later H6.out.2.2.1 H8c.out) bz) oz))
  clear oz bz H8b H8c H6
  obtain ⟨X, hX⟩ : ∃ X, puR18 l = X := ⟨_, rfl⟩
  obtain ⟨Y, hY⟩ : ∃ Y, puR18 m = Y := ⟨_, rfl⟩
  obtain ⟨Z, hZ⟩ : ∃ Z, puR18 (l ++ m) = Z := ⟨_, rfl⟩
  obtain ⟨x, E⟩ := X
  obtain ⟨y, F⟩ := Y
  obtain ⟨z, G⟩ := Z
  rw [hX, hY, hZ] at HPb
  rw [hX, hY, hZ] at H8
  rw [hX, hY, hZ]
  have HPx : Hid _ := And.intro hX hY
  simp only at HPb H8 ⊢
  clear hX hY hZ
  rw [← HA.out.2.2.1, ← HA.out.2.2.2.1] at HPb
  obtain ⟨ax, nx, cx, e1, hsx⟩ := strsC18 H8.out.2.1
  obtain ⟨ay, ny, cy, e2, hsy⟩ := strsC18 H8.out.2.2.1
  obtain ⟨az, cz, e3, -, -, hrz, -, -⟩ := H8.out.2.2.2.open
  subst e1 e2 e3
  have hcx := hsx w8 (Below.refl _ _)
  have hcy := hsy w8 (Below.refl _ _)
  have hcz := hrz.str z.length cz rfl
  clear hsx hsy hrz
  by_cases hEF : E = 0 ∧ F = 0
  · obtain ⟨rfl, rfl⟩ := hEF
    by_cases hbig : 64 < len0 + len1
    · have hz := HPb.out.2.1 hbig
      cases hz
      have t1 : (64 : Int) < (len0 : Int) + (len1 : Int) := by omega
      have t2 : (64 : Int) < ((len0 + len1 : Nat) : Int) := by omega
      have FK : Hid _ := H8.out.1
      clear H8 HPb HPx hcx hcy hcz
      go_wp2_with fail
      refine (Calls.mono (known18_any w8 (PowT.later HP.out FK.out))) ?_
      rintro e w9 ⟨rfl, b9⟩
      have F : Hid _ := below_then FK.out b9
      clear b9 FK
      go_wp2
      go_ret
      exact ⟨rfl, F.out⟩
    · have hz := HPb.out.2.2 x y rfl rfl hbig
      cases hz
      have t1 : ¬ (64 : Int) < (len0 : Int) + (len1 : Int) := by omega
      have t2 : ¬ (64 : Int) < ((len0 + len1 : Nat) : Int) := by omega
      have hst := str_app18 x y
      have hx3 := (puR18_facts (l := l) HPx.out.1).1
      have hy3 := (puR18_facts (l := m) HPx.out.2).1
      have hsz : (str x).size + (str y).size ≤ 9223372036854775807 := by rw [str_us, str_us, mkS_size, mkS_size, us_len, us_len]; omega
      rw [hst] at hcz
      clear hst hx3 hy3
      generalize str x = TX at *
      generalize str y = TY at *
      generalize (x ++ y).length = nz at *
      have FK : Hid _ := H8.out.1
      clear H8 HPb HPx
      go_wp2_with fail
      refine (Calls.mono (known18_any w8 (PowT.later HP.out FK.out))) ?_
      rintro e w9 ⟨rfl, b9⟩
      have F : Hid _ := below_then FK.out b9
      clear b9 FK
      go_wp2
      go_ret
      exact ⟨rfl, F.out⟩
  · obtain ⟨e0, hz, he0⟩ := HPb.out.1 (by by_cases h : E = 0; exact .inr (fun h2 => hEF ⟨h, h2⟩); exact .inl h)
    obtain ⟨hz1, hz2⟩ := Prod.mk.inj hz
    subst hz1
    have dG : (G != 0) = true := by rw [hz2]; simpa using he0
    clear hz2 hz he0
    by_cases hE : E = 0
    · have dE : (E != 0) = false := by simpa using hE
      have dF : (F != 0) = true := by simp; exact fun h => hEF ⟨hE, h⟩
      have FK : Hid _ := H8.out.1
      clear H8 HPb HPx hcx hcy hcz hEF hE
      go_wp2_with fail
      refine (Calls.mono (known18_any w8 (PowT.later HP.out FK.out))) ?_
      rintro e w9 ⟨rfl, b9⟩
      have F : Hid _ := below_then FK.out b9
      clear b9 FK
      go_wp2
      go_ret
      exact ⟨rfl, F.out⟩
    · have dE : (E != 0) = true := by simpa using hE
      have FK : Hid _ := H8.out.1
      clear H8 HPb HPx hcx hcy hcz hEF hE
      go_wp2_with fail
      refine (Calls.mono (known18_any w8 (PowT.later HP.out FK.out))) ?_
      rintro e w9 ⟨rfl, b9⟩
      have F : Hid _ := below_then FK.out b9
      clear b9 FK
      go_wp2
      go_ret
      exact ⟨rfl, F.out⟩
end Go.Proofs.YtligmiajlbjecaaDoor

