/- A copy of a disk. -/
import Derived.Test.YtmhnlfgakpelkaaDkW10
namespace Go.Proofs.Ytmhnlfgakpelkaa
open Go.RowKit
set_option linter.unusedVariables false

theorem nil_groups (W : World) (a : Option Addr) (l c : Nat) : (binOp .eql 63 (.slice a l c) (.slice none 0 0)).run Try.prog W = .ok (.bool a.isNone) W :=
  Lib.run_eql_slice_nil W 63 68 a l c 0 0 Try.underlying63
theorem groups_empty (w : World) : (w.alloc (.cells #[] 68)).ownsRow w.heap.size 68 2 (.slice (some ⟨w.heap.size, 0, none⟩) 0 0) 0 [] :=
  ⟨by simp, .inr ⟨w.heap.size, 0, #[], rfl, Nat.le_refl _, (show Blk _ _ _ [] from Blk.new' w _ []), Nat.le_refl _, by simp, by simp, by simp⟩⟩
theorem ownsRow_low {w : World} {base base' size n : Nat} {e : TypeId} {v : Value} {xs : List Value} (h : w.ownsRow base e size v n xs) (hb : base' ≤ base) : w.ownsRow base' e size v n xs := by
  obtain ⟨h1, h2 | ⟨g, cap, cur, hv, hg, r⟩⟩ := h
  · exact ⟨h1, .inl h2⟩
  · exact ⟨h1, .inr ⟨g, cap, cur, hv, by omega, r⟩⟩
theorem gs_one {V : List Nat} {w : World} {gs : List (Nat × List (BitVec 8))} {vs : List Value} (h : GsAt V w gs vs) : ∀ u ∈ vs, u.oneCell' = true := by
  induction gs generalizing vs with
  | nil => match vs, h with | [], _ => intro u hu; cases hu
  | cons g gs ih =>
    match vs, h with
    | x :: u :: vs, ⟨k1, ⟨a, cap, h2, _⟩, k3⟩ =>
      intro y hy
      simp only [List.mem_cons] at hy
      rcases hy with rfl | rfl | hy
      · subst k1; rfl
      · subst h2; rfl
      · exact ih k3 y hy

set_option maxHeartbeats 400000 in
theorem CloneG_any (gv : Value) (n : Nat) (vs : List Value) (w : World) (hO : w.ownsRow 0 68 2 gv n vs) (h1 : ∀ u ∈ vs, u.oneCell' = true) (hn : n ≤ 1000000) :
    Calls Try.prog 39 #[gv] w fun e w' => ∃ v, e = .returned v ∧ w'.ownsRow w.heap.size 68 2 v n vs ∧ Below w.heap.size w w' := by
  obtain ⟨i0, hi, hz0, hz1, hz2⟩ := info_parts info_group
  have hO' := hO
  obtain ⟨hl, ⟨rfl, rfl⟩ | ⟨g, cap, cur, rfl, hb, hh, hc, hm, hs, ht⟩⟩ := hO
  · have hq : ∀ W : World, (binOp .eql 63 (.slice none 0 0) (.slice none 0 0)).run Try.prog W = .ok (.bool true) W := fun W => by rw [nil_groups]; rfl
    obtain rfl : vs = [] := List.eq_nil_of_length_eq_zero (by simpa using hl)
    clear hO'
    go_enter Try.func39, Try.ntmps39
    go_wp2
    go_ret
    exact ⟨_, rfl, World.ownsRow_nil _ _ _ _, Below.refl _ _⟩
  · have hq : ∀ W : World, (binOp .eql 63 (.slice (some ⟨g, 0, none⟩) n cap) (.slice none 0 0)).run Try.prog W = .ok (.bool false) W := fun W => by rw [nil_groups]; rfl
    have hb0 : Below w.heap.size w (w.alloc (.cells #[] 68)) := (Below.refl _ _).alloc (Nat.le_refl _) _
    have ho := groups_empty w
    have hcell : ∀ j u, vs[j]? = some u → (w.alloc (.cells #[] 68)).cell? ((⟨g, 0, none⟩ : Addr).add j) = some u := by
      intro j u hj
      have hjl : j < vs.length := by
        rcases Nat.lt_or_ge j vs.length with h | h
        · exact h
        · rw [List.getElem?_eq_none h] at hj; cases hj
      have e : (⟨g, 0, none⟩ : Addr).add j = ⟨g, 0 + j, none⟩ := by unfold Addr.add; split <;> simp_all
      rw [e, Nat.zero_add]
      refine cell_later hb0 ?_
      rw [World.ownsRow.cellAt hO' j (by omega)]; exact hj
    have HC : Hid _ := hcell
    have HO : Hid _ := ho
    clear hcell ho hO' hh ht hs
    go_enter Try.func39, Try.ntmps39
    go_wp2_with (at_builtin; refine wpList_append_own (w.alloc (.cells #[] 68)) rfl _ _ 63 rfl w.heap.size 68 i0 (.agg #[.int .i64 0, .slice none 0 0]) 2 32 Try.underlying63 hi hz0 hz1 hz2 rfl (by decide) (.slice (some ⟨w.heap.size, 0, none⟩) 0 0) 0 [] rfl HO.out ⟨g, 0, none⟩ n cap vs rfl hl HC.out h1 (by unfold maxLen; omega) (by omega) (by simp) ?_)
    intro v' w' ho' hg' _
    have hb' : Below w.heap.size w w' := hb0.grown hg' hb0.size (fun k hk => by simp [Value.ownBlock] at hk; omega)
    have F : Hid _ := And.intro ho' hb'
    clear ho' hg' hb' HO HC hb0 h1
    go_wp2
    go_ret
    exact ⟨_, rfl, by simpa using F.out.1, F.out.2⟩

/-- the places of a copy -/
theorem copy_ok {g s' m' : Nat} {p : Pl} {d : Dm} {w w1 w2 w3 w4 : World} {cs cm cs' cm' : Nat} {gv gv' : Value} {vs : List Value} (h : (dk g p d).Ok w) (hw : d.Wf) (hD : DkAt w g p.s p.m p.V cs cm gv vs d)
    (b1 : Below w.heap.size w w1) (b2 : Below w1.heap.size w1 w2) (b3 : Below w2.heap.size w2 w3) (b4 : Below w3.heap.size w3 w4)
    (o1 : Own w1 w.heap.size (.slice (some ⟨s', 0, none⟩) d.safe.length cs') d.safe) (o2 : Own w2 w1.heap.size (.slice (some ⟨m', 0, none⟩) d.safe.length cm') (nowOf d.safe d.gs)) (o3 : w3.ownsRow w2.heap.size 68 2 gv' d.gs.length vs)
    (hB : Blk w4 w3.heap.size 65 [.slice (some ⟨s', 0, none⟩) d.safe.length cs', .slice (some ⟨m', 0, none⟩) d.safe.length cm', gv', .bool d.bad, .bool d.gone]) :
    (dk w3.heap.size ⟨s', m', gv'.ownBlock, p.V⟩ d).Ok w4 ∧ (∀ k ∈ (dk w3.heap.size ⟨s', m', gv'.ownBlock, p.V⟩ d).W, w.heap.size ≤ k) ∧ Below w.heap.size w w4 := by
  have l1 := World.ownsRow.lt o1 s' rfl
  have l2 := World.ownsRow.lt o2 m' rfl
  have l3 := World.ownsRow.lt o3
  have z1 := b1.size
  have z2 := b2.size
  have z3 := b3.size
  have z4 := b4.size
  have lg := hB.lt
  have bA := below_then (below_then (below_then b1 b2) b3) b4
  refine ⟨dk_ok ⟨?_, cs', cm', gv', vs, rfl, hB, (((o1.later b2).later b3).later b4).low (Nat.zero_le _), ((o2.later b3).later b4).low (Nat.zero_le _), ?_, ?_⟩ ?_ ?_, ?_, bA⟩
  · simp only [List.nodup_cons, List.mem_cons, Option.mem_toList, not_or]
    refine ⟨⟨by omega, by omega, fun e => ?_⟩, ⟨by omega, fun e => ?_⟩, fun e => ?_, ?_⟩
    · have := l3 _ e; omega
    · have := l3 _ e; omega
    · have := l3 _ e; omega
    · cases gv'.ownBlock <;> simp
  · exact ownsRow_low (ownsRow_same o3 (fun k hk => b4.block k (l3 k hk).2)) (Nat.zero_le _)
  · exact hD.each.same (fun k hk => bA.block k (h.lt k (.inr hk)))
  · intro k hk
    simp only [List.mem_cons, Option.mem_toList] at hk
    rcases hk with (rfl | rfl | rfl | hk) | hk
    · omega
    · omega
    · omega
    · have := l3 k hk; omega
    · have := h.lt k (.inr hk); omega
  · intro k hk hv
    have hv' := h.lt k (.inr hv)
    simp only [List.mem_cons, Option.mem_toList] at hk
    rcases hk with rfl | rfl | rfl | hk
    · omega
    · omega
    · omega
    · have := l3 k hk; omega
  · intro k hk
    simp only [dk, List.mem_cons, Option.mem_toList] at hk
    rcases hk with rfl | rfl | rfl | hk
    · omega
    · omega
    · omega
    · have := l3 k hk; omega

set_option maxHeartbeats 2000000 in
theorem Copy_any (g : Nat) (p : Pl) (d : Dm) (w : World) (h : (dk g p d).Ok w) (hw : d.Wf) (hgs : d.gs.length ≤ 1000000) :
    Calls Try.prog 18 #[.pointer (some ⟨g, 0, none⟩)] w fun e w' => ∃ g' p', e = .returned (.pointer (some ⟨g', 0, none⟩)) ∧ (dk g' p' d).Ok w' ∧ p'.V = p.V ∧ (∀ k ∈ (dk g' p' d).W, w.heap.size ≤ k) ∧ Below w.heap.size w w' := by
  obtain ⟨nd, cs, cm, gv, vs, hq, hD⟩ := h.holds
  have c0 := hD.blk.cell (by simp [maxLen]) 0 (by simp)
  have c1 := hD.blk.cell (by simp [maxLen]) 1 (by simp)
  have c2 := hD.blk.cell (by simp [maxLen]) 2 (by simp)
  have c3 := hD.blk.cell (by simp [maxLen]) 3 (by simp)
  have c4 := hD.blk.cell (by simp [maxLen]) 4 (by simp)
  simp only [List.getElem?_cons_succ, List.getElem?_cons_zero] at c0 c1 c2 c3 c4
  have hl6 : d.safe.length ≤ 1048576 := by have := hw.len; omega
  have hl1 : 1 ≤ d.safe.length := by have := hw.len; omega
  have hS : w.drew.cell? ⟨g, 0, none⟩ = some (.slice (some ⟨p.s, 0, none⟩) d.safe.length cs) ∧ w.drew.cell? ⟨g, 1, none⟩ = some (.slice (some ⟨p.m, 0, none⟩) d.safe.length cm) ∧ w.drew.cell? ⟨g, 2, none⟩ = some gv ∧ w.drew.cell? ⟨g, 3, none⟩ = some (.bool d.bad) ∧ w.drew.cell? ⟨g, 4, none⟩ = some (.bool d.gone) := ⟨c0, c1, c2, c3, c4⟩
  obtain ⟨as1, cs1, hvs, hles, _, hrs, -, -⟩ := hD.safe.open
  simp only [Value.slice.injEq] at hvs
  obtain ⟨rfl, -, rfl⟩ := hvs
  obtain ⟨am, cm1, hvm, hlem, _, hrm, -, -⟩ := hD.now.open
  simp only [Value.slice.injEq] at hvm
  obtain ⟨rfl, -, rfl⟩ := hvm
  have hnl := hw.now
  rw [hnl] at hlem
  have bd : Below w.heap.size w w.drew := (Below.refl _ _).drew
  have HC1 : Hid _ := Clone_any (some ⟨p.s, 0, none⟩) d.safe.length cs d.safe w.drew rfl hles (by omega) (hrs.later bd) (fun e => by cases e)
  have HC2 : Hid _ := fun (W : World) (b : Below w.heap.size w W) => Clone_any (some ⟨p.m, 0, none⟩) d.safe.length cm (nowOf d.safe d.gs) W hnl hlem (by omega) (hrm.later b) (fun e => by cases e)
  have HC3 : Hid _ := fun (W : World) (b : Below w.heap.size w W) => CloneG_any gv d.gs.length vs W (ownsRow_same hD.groups (fun k hk => b.block k (World.ownsRow.lt hD.groups k hk).2)) (gs_one hD.each) hgs
  have HF : Hid _ := And.intro h (And.intro hw hD)
  have hN1 : Hid (1 ≤ (nowOf d.safe d.gs).length) := by show 1 ≤ (nowOf d.safe d.gs).length; rw [hnl]; exact hl1
  have HNl : Hid _ := hnl
  have Hbd : Hid _ := bd
  have hlt := hD.blk.lt
  clear h hw hD hq nd hnl bd hrs hrm c0 c1 c2 c3 c4
  go_enter Try.func18, Try.ntmps18
  go_wp2_with fail
  go_region_held_law (fun W => W.cell? ⟨g, 0, none⟩ = some (.slice (some ⟨p.s, 0, none⟩) d.safe.length cs) ∧ W.cell? ⟨g, 1, none⟩ = some (.slice (some ⟨p.m, 0, none⟩) d.safe.length cm) ∧ W.cell? ⟨g, 2, none⟩ = some gv ∧ W.cell? ⟨g, 3, none⟩ = some (.bool d.bad) ∧ W.cell? ⟨g, 4, none⟩ = some (.bool d.gone)) (first | exact hS | assumption | exact S4 _)
    (first
      | (go_at_call_of 32 (Value.slice (some ⟨p.s, 0, none⟩) d.safe.length cs); refine (Calls.mono HC1.out) ?_; rintro e w1 ⟨v1, rfl, o1, b1⟩; have S1 : w1.cell? ⟨g, 0, none⟩ = some (.slice (some ⟨p.s, 0, none⟩) d.safe.length cs) ∧ w1.cell? ⟨g, 1, none⟩ = some (.slice (some ⟨p.m, 0, none⟩) d.safe.length cm) ∧ w1.cell? ⟨g, 2, none⟩ = some gv ∧ w1.cell? ⟨g, 3, none⟩ = some (.bool d.bad) ∧ w1.cell? ⟨g, 4, none⟩ = some (.bool d.gone) := ⟨cell_later b1 hS.1, cell_later b1 hS.2.1, cell_later b1 hS.2.2.1, cell_later b1 hS.2.2.2.1, cell_later b1 hS.2.2.2.2⟩; obtain ⟨s1, cs2, rfl, hs1, hs2⟩ := o1.some hl1)
      | (go_at_call_of 32 (Value.slice (some ⟨p.m, 0, none⟩) d.safe.length cm); refine (Calls.mono (HC2.out w1 (below_then Hbd.out b1))) ?_; rintro e w2 ⟨v2, rfl, o2, b2⟩; have S2 : w2.cell? ⟨g, 0, none⟩ = some (.slice (some ⟨p.s, 0, none⟩) d.safe.length cs) ∧ w2.cell? ⟨g, 1, none⟩ = some (.slice (some ⟨p.m, 0, none⟩) d.safe.length cm) ∧ w2.cell? ⟨g, 2, none⟩ = some gv ∧ w2.cell? ⟨g, 3, none⟩ = some (.bool d.bad) ∧ w2.cell? ⟨g, 4, none⟩ = some (.bool d.gone) := ⟨cell_later b2 S1.1, cell_later b2 S1.2.1, cell_later b2 S1.2.2.1, cell_later b2 S1.2.2.2.1, cell_later b2 S1.2.2.2.2⟩; obtain ⟨m1, cm2, rfl, hm1, hm2⟩ := o2.some hN1.out)
      | (go_at_call 39; refine (Calls.mono (HC3.out w2 (below_then (below_then Hbd.out b1) b2))) ?_; rintro e w3 ⟨v3, rfl, o3, b3⟩; have S3 : w3.cell? ⟨g, 0, none⟩ = some (.slice (some ⟨p.s, 0, none⟩) d.safe.length cs) ∧ w3.cell? ⟨g, 1, none⟩ = some (.slice (some ⟨p.m, 0, none⟩) d.safe.length cm) ∧ w3.cell? ⟨g, 2, none⟩ = some gv ∧ w3.cell? ⟨g, 3, none⟩ = some (.bool d.bad) ∧ w3.cell? ⟨g, 4, none⟩ = some (.bool d.gone) := ⟨cell_later b3 S2.1, cell_later b3 S2.2.1, cell_later b3 S2.2.2.1, cell_later b3 S2.2.2.2.1, cell_later b3 S2.2.2.2.2⟩; obtain ⟨ag, cg, rfl⟩ := own_form o3; have b5 : ∀ x, Below w3.heap.size w3 (w3.alloc x) := fun x => (Below.refl _ _).alloc (Nat.le_refl _) _; have S4 := fun x => And.intro (cell_later (b5 x) S3.1) (And.intro (cell_later (b5 x) S3.2.1) (And.intro (cell_later (b5 x) S3.2.2.1) (And.intro (cell_later (b5 x) S3.2.2.2.1) (cell_later (b5 x) S3.2.2.2.2))))))
  obtain ⟨h, hw, hD⟩ := HF.out
  rw [HNl.out] at o2 ⊢
  have hC := copy_ok h hw hD (below_then Hbd.out b1) b2 b3 (b5 _) o1 o2 o3 (Blk.new' w3 65 [.slice (some ⟨s1, 0, none⟩) d.safe.length cs2, .slice (some ⟨m1, 0, none⟩) d.safe.length cm2, .slice ag d.gs.length cg, .bool d.bad, .bool d.gone])
  have F : Hid _ := hC
  clear h hw hD HF HC1 HC2 HC3 hC o1 o2 o3 b1 b2 b3 b5 S1 S2 S3 S4 hS HNl Hbd hN1
  go_wp2
  go_ret
  exact ⟨_, ⟨s1, m1, _, p.V⟩, rfl, F.out.1, rfl, F.out.2.1, F.out.2.2⟩
end Go.Proofs.Ytmhnlfgakpelkaa
