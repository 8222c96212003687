/- The walk of TextTalks. -/
import Derived.Test.YtligmiajlbjecaaDoorXTy14
import Derived.Test.YtligmiajlbjecaaDoorXTy7
import Derived.BigQuiet
namespace Go.Proofs.YtligmiajlbjecaaDoor
open Go.RowKit
set_option linter.unusedVariables false
set_option linter.unusedSimpArgs false
set_option maxRecDepth 8000

theorem tkN_len : ∀ (l : List Pr) (now : Pm18) (out : List Pr) (p' : Pm18) (out' : List Pr), tkN l now out = some (p', out') → out'.length ≤ out.length + l.length := by
  intro l now out p' out' h
  obtain ⟨-, e, h2, h3⟩ := tkN_shape l now out p' out' h
  have := h3.length_le
  simp at this
  rw [h2, List.length_append]; omega
theorem own_past {K : Kd Pr} {B : Nat} {w w' : World} {g : Nat} {v : Value} {l : List Pr} (h : ∃ q, GSl K w v q l ∧ ∀ b, q = some b → B ≤ b) (hg : w.grownBy w' (some g)) (hb : g < B) : ∃ q, GSl K w' v q l ∧ ∀ b, q = some b → B ≤ b := by
  obtain ⟨q, hq, hx⟩ := h
  exact ⟨q, hq.turned (turned_grown (R := fun k => k = g) hg (fun k e => by cases e; rfl)) (fun k hk e => by have := hx k hk; omega), hx⟩
theorem own_later {K : Kd Pr} {B : Nat} {w w' : World} {v : Value} {l : List Pr} (h : ∃ q, GSl K w v q l ∧ ∀ b, q = some b → B ≤ b) (hb : Below w.heap.size w w') : ∃ q, GSl K w' v q l ∧ ∀ b, q = some b → B ≤ b := by
  obtain ⟨q, hq, hx⟩ := h
  exact ⟨q, hq.later hb, hx⟩
theorem own_at {K : Kd Pr} {B : Nat} {w : World} {v : Value} {l : List Pr} (hK : K.Ok) (h : ∃ q, GSl K w v q l ∧ ∀ b, q = some b → B ≤ b) : GAt K w v l := by
  obtain ⟨q, hq, hx⟩ := h
  exact hq.at hK
theorem talk_len (p : Pm18) (l : List Pr) : (talkM p l).1.length ≤ l.length := by
  unfold talkM
  cases h : tkN l p [] with
  | none => simp
  | some y =>
    obtain ⟨now, out⟩ := y
    have := tkN_len l p [] now out h
    simpa using this
section
variable {P : Program} {Q : Exit → Act → World → Prop} {md : Region.Mode} {S : World → Prop} {Z : List Nat}
theorem anyF_pure {ops : Array Oper} {i : Nat} {oi : Oper} {v : Value} (hz : i ∈ Z) (hi : ops[i]? = some oi) (hsel : ∀ (j : Nat) (o : Oper) cs b, ops[j]? = some o → o.op ≠ .select cs b)
    (hQ : ∀ c a w, Q (.panic c) (a.put oi.dst v) w → Q (.panic c) a w) :
    ∀ (fuel : Nat) (listed : Array Bool) (a : Act) (w : World),
      (∀ j oj, ops[j]? = some oj → j ≠ i → listed.getD j true = false → (∀ e ∈ oj.after, Region.binds md e = true → e.on ≠ i) → oi.apart ops oj = true) →
      i ∈ Region.ready md ops listed → YieldsIf P ops (fun _ => True) oi v a →
      anyF P md ops Q S Z fuel (listed.setIfInBounds i true) (a.put oi.dst v) w → anyF P md ops Q S Z (fuel + 1) listed a w := by
  intro fuel
  induction fuel with
  | zero =>
    intro listed a w _ hr hy H
    refine ⟨fun h => (by rw [h] at hr; cases hr), fun j hj => ?_⟩
    by_cases hji : j = i
    · subst hji; exact hy.wpOp hi trivial ⟨.inl hz, H⟩
    · have := ready_mono hj hji
      rw [H.1] at this
      cases this
  | succ fuel ih =>
    intro listed a w hfree hr hy H
    refine ⟨fun h => (by rw [h] at hr; cases hr), fun j hj => ?_⟩
    by_cases hji : j = i
    · subst hji; exact hy.wpOp hi trivial ⟨.inl hz, H⟩
    · have h1 := H.2 j (ready_mono hj hji)
      obtain ⟨hjun, oj, hoj, hall⟩ := mem_ready.1 hj
      have hnot : ∀ e ∈ oj.after, Region.binds md e = true → e.on ≠ i := fun e he hb heq => by
        have h1 := hall e he hb
        have h0 := (mem_ready.1 hr).1
        rw [heq] at h1
        rcases Nat.lt_or_ge i listed.size with h' | h'
        · simp [h'] at h0 h1; rw [h0] at h1; cases h1
        · simp [Array.getElem?_eq_none h'] at h1
      have h2 := wpOp_putIf hoj (hfree j oj hoj hji hjun hnot) (fun cs b => hsel i oi cs b hi) (fun cs b => hsel j oj cs b hoj) hQ hy h1
      have hfree' : ∀ k ok, ops[k]? = some ok → k ≠ i → (listed.setIfInBounds j true).getD k true = false →
          (∀ e ∈ ok.after, Region.binds md e = true → e.on ≠ i) → oi.apart ops ok = true := fun k ok hk hki hun hno => by
        refine hfree k ok hk hki ?_ hno
        by_cases hjk : j = k
        · subst hjk; exact hjun
        · rw [getD_set_ne true hjk] at hun; exact hun
      refine wpOp_mono (fun a' w' h3 => ⟨h3.2.1, ih (listed.setIfInBounds j true) a' w' hfree' (ready_mono hr (Ne.symm hji)) h3.1 ?_⟩) h2
      rw [Array.setIfInBounds_comm _ _ hji]
      exact h3.2.2
/-- each one of these waits for one ahead of it -/
def waitsT (md : Region.Mode) (ops : Array Oper) : List Nat → List Nat → Bool
  | _, [] => true
  | pre, c :: cs => (match ops[c]? with | some oc => oc.after.any (fun e => Region.binds md e && pre.contains e.on) | none => false) && waitsT md ops (c :: pre) cs
theorem not_readyT {ops : Array Oper} {listed : Array Bool} {j : Nat} (hj : j ∈ Region.ready md ops listed) : ∀ (cs pre : List Nat), waitsT md ops pre cs = true → (∀ p ∈ pre, listed.getD p true = false) → (∀ c ∈ cs, listed.getD c true = false) → j ∉ cs
  | [], _, _, _, _ => by simp
  | c :: cs, pre, hw, hi, hc => by
    simp only [waitsT, Bool.and_eq_true] at hw
    have hcl := hc c (by simp)
    have ih := not_readyT hj cs (c :: pre) hw.2 (fun p hp => by rcases List.mem_cons.1 hp with rfl | hp; exact hcl; exact hi p hp) (fun k hk => hc k (by simp [hk]))
    intro hm
    rcases List.mem_cons.1 hm with rfl | hm
    · obtain ⟨h0, o, ho, hall⟩ := mem_ready.1 hj
      have h1 := hw.1
      rw [ho] at h1
      obtain ⟨n, hn, h2⟩ : ∃ n, ∃ h : n < o.after.size, Region.binds md o.after[n] = true ∧ o.after[n].on ∈ pre := by simpa using h1
      have he : o.after[n] ∈ o.after := Array.getElem_mem hn
      generalize o.after[n] = e at *
      have h3 := hall e he h2.1
      have h4 := hi e.on h2.2
      rcases Nat.lt_or_ge e.on listed.size with h' | h'
      · simp [h'] at h4 h3; rw [h4] at h3; cases h3
      · simp [Array.getElem?_eq_none h'] at h4
    · exact ih hm
theorem anyF_tree {ops : Array Oper} {i : Nat} {oi : Oper} {v : Value} (cs : List Nat) (hz : ∀ z ∈ Z, z ∈ cs) (hwait : waitsT md ops [i] cs = true) (hi : ops[i]? = some oi) (hsel : ∀ (j : Nat) (o : Oper) cs b, ops[j]? = some o → o.op ≠ .select cs b)
    (hQ : ∀ c a w, Q (.panic c) (a.put oi.dst v) w → Q (.panic c) a w) :
    ∀ (fuel : Nat) (listed : Array Bool) (a : Act) (w : World),
      (∀ c ∈ cs, listed.getD c true = false) →
      (∀ j oj, ops[j]? = some oj → j ≠ i → listed.getD j true = false → (∀ e ∈ oj.after, Region.binds md e = true → e.on ≠ i) → oi.apart ops oj = true) →
      i ∈ Region.ready md ops listed → YieldsIf P ops S oi v a → S w →
      anyF P md ops Q S Z fuel (listed.setIfInBounds i true) (a.put oi.dst v) w → anyF P md ops Q S Z (fuel + 1) listed a w := by
  intro fuel
  induction fuel with
  | zero =>
    intro listed a w _ _ hr hy hS H
    refine ⟨fun h => (by rw [h] at hr; cases hr), fun j hj => ?_⟩
    by_cases hji : j = i
    · subst hji; exact hy.wpOp hi hS ⟨.inr hS, H⟩
    · have := ready_mono hj hji
      rw [H.1] at this
      cases this
  | succ fuel ih =>
    intro listed a w hun hfree hr hy hS H
    refine ⟨fun h => (by rw [h] at hr; cases hr), fun j hj => ?_⟩
    by_cases hji : j = i
    · subst hji; exact hy.wpOp hi hS ⟨.inr hS, H⟩
    · have hnj := not_readyT hj cs [i] hwait (fun p hp => by rw [List.mem_singleton.1 hp]; exact (mem_ready.1 hr).1) hun
      have hjz : j ∉ Z := fun e => hnj (hz j e)
      have h1 := H.2 j (ready_mono hj hji)
      obtain ⟨hjun, oj, hoj, hall⟩ := mem_ready.1 hj
      have hnot : ∀ e ∈ oj.after, Region.binds md e = true → e.on ≠ i := fun e he hb heq => by
        have h1 := hall e he hb
        have h0 := (mem_ready.1 hr).1
        rw [heq] at h1
        rcases Nat.lt_or_ge i listed.size with h' | h'
        · simp [h'] at h0 h1; rw [h0] at h1; cases h1
        · simp [Array.getElem?_eq_none h'] at h1
      have h2 := wpOp_putIf hoj (hfree j oj hoj hji hjun hnot) (fun cs b => hsel i oi cs b hi) (fun cs b => hsel j oj cs b hoj) hQ hy h1
      have hfree' : ∀ k ok, ops[k]? = some ok → k ≠ i → (listed.setIfInBounds j true).getD k true = false →
          (∀ e ∈ ok.after, Region.binds md e = true → e.on ≠ i) → oi.apart ops ok = true := fun k ok hk hki hun hno => by
        refine hfree k ok hk hki ?_ hno
        by_cases hjk : j = k
        · subst hjk; exact hjun
        · rw [getD_set_ne true hjk] at hun; exact hun
      have hun' : ∀ c ∈ cs, (listed.setIfInBounds j true).getD c true = false := fun c hc => by
        rw [getD_set_ne true (fun e : j = c => hnj (by rw [e]; exact hc))]; exact hun c hc
      refine wpOp_mono (fun a' w' h3 => ⟨h3.2.1, ih (listed.setIfInBounds j true) a' w' hun' hfree' (ready_mono hr (Ne.symm hji)) h3.1 (h3.2.1.resolve_left hjz) ?_⟩) h2
      rw [Array.setIfInBounds_comm _ _ hji]
      exact h3.2.2
theorem f_tree {L : List Oper} {i : Nat} {oi : Oper} {r : List Oper} (cs : List Nat) (hL : L.drop i = oi :: r) {v : Value} {fuel : Nat} {listed : Array Bool} {a : Act} {w : World}
    (hz : (Z.all (fun z => cs.contains z) && waitsT md L.toArray [i] cs && cs.all (fun c => !listed.getD c true)) = true)
    (hs : Region.noSelect L.toArray = true) (hf : Region.free md L.toArray listed i = true) (hr : (Region.ready md L.toArray listed).contains i = true)
    (hQ : ∀ c a w, Q (.panic c) (a.put oi.dst v) w → Q (.panic c) a w) (hw : Region.wanted oi (yielded L.toArray a.tmps) = true) (hy : ∀ w, S w → (execOp a.eval oi).run P w = .ok (.value v) w) (hS : S w)
    (h : anyF P md L.toArray Q S Z fuel (listed.setIfInBounds i true) (a.put oi.dst v) w) : anyF P md L.toArray Q S Z (fuel + 1) listed a w := by
  simp only [Bool.and_eq_true, List.contains_iff_mem, List.all_eq_true, Bool.not_eq_true'] at hz
  exact anyF_tree cs hz.1.1 hz.1.2 (drop_at hL) (Region.noSelect_spec hs) hQ fuel listed a w hz.2 (Region.free_spec (drop_at hL) hf) (by simpa using hr) (.inl ⟨hw, hy⟩) hS h
/-- take number i first, that asks nothing of the world -/
theorem f_pure {L : List Oper} {i : Nat} {oi : Oper} {r : List Oper} (hL : L.drop i = oi :: r) (hz : i ∈ Z) {v : Value} {fuel : Nat} {listed : Array Bool} {a : Act} {w : World}
    (hs : Region.noSelect L.toArray = true) (hf : Region.free md L.toArray listed i = true) (hr : (Region.ready md L.toArray listed).contains i = true)
    (hQ : ∀ c a w, Q (.panic c) (a.put oi.dst v) w → Q (.panic c) a w) (hw : Region.wanted oi (yielded L.toArray a.tmps) = true) (hy : ∀ w, (execOp a.eval oi).run P w = .ok (.value v) w)
    (h : anyF P md L.toArray Q S Z fuel (listed.setIfInBounds i true) (a.put oi.dst v) w) : anyF P md L.toArray Q S Z (fuel + 1) listed a w :=
  anyF_pure hz (drop_at hL) (Region.noSelect_spec hs) hQ fuel listed a w (Region.free_spec (drop_at hL) hf) (by simpa using hr) (.inl ⟨hw, fun w _ => hy w⟩) h
end
set_option maxHeartbeats 16000000 in
theorem textTalks_go (p : Pm18) (a0 : Option Addr) (len0 cap0 : Nat) (l : List Pr) (a1 : Option Addr) (len1 cap1 : Nat) (m : List Pr) (w : World) (hP : PowT w) (B0 : PrArg w a0 len0 cap0 l) (B1 : PrArg w a1 len1 cap1 m) (S0 : ∀ x ∈ l, x.2.size ≤ 4194304) (S1 : ∀ x ∈ m, x.2.size ≤ 4194304) :
    Calls Tryd.prog 5 #[.agg #[.bool p.hs, .bool p.ds, .int .i64 p.mo, .int .i64 p.mi, .int .i64 p.bu, .int .i64 p.fi, .bool p.a, .bool p.imd, .bool p.di, .string p.ini, .string p.tgt], .slice a0 len0 cap0, .slice a1 len1 cap1] w fun e w' => e = .returned (.bool true) ∧ Below w.heap.size w w' := by
  obtain ⟨hlen0, hA0, hf0, -⟩ := B0
  obtain ⟨hlen1, hA1, hf1, -⟩ := B1
  have HA : Hid _ := And.intro hA0 (And.intro hf0 S0)
  have HM : Hid _ := And.intro hA1 (And.intro hf1 S1)
  have HN0 : Hid _ := hlen0
  have HN1 : Hid _ := hlen1
  have HP : Hid _ := hP
  clear hA0 hf0 S0 hA1 hf1 S1 hP
  have N1 := Blk.new' w 48 [.bool p.hs, .bool p.ds, .int .i64 p.mo, .int .i64 p.mi, .int .i64 p.bu, .int .i64 p.fi, .bool p.a, .bool p.imd, .bool p.di, .string p.ini, .string p.tgt]
  have bn1 : Below w.heap.size w (w.alloc (.cells #[.bool p.hs, .bool p.ds, .int .i64 p.mo, .int .i64 p.mi, .int .i64 p.bu, .int .i64 p.fi, .bool p.a, .bool p.imd, .bool p.di, .string p.ini, .string p.tgt] 48)) := (Below.refl _ _).alloc (Nat.le_refl _) _
  obtain ⟨w1, hw1⟩ : ∃ w1, w1 = w.alloc (.cells #[.bool p.hs, .bool p.ds, .int .i64 p.mo, .int .i64 p.mi, .int .i64 p.bu, .int .i64 p.fi, .bool p.a, .bool p.imd, .bool p.di, .string p.ini, .string p.tgt] 48) := ⟨_, rfl⟩
  rw [← hw1] at N1 bn1
  obtain ⟨gp, hgp⟩ : ∃ g, g = w.heap.size := ⟨_, rfl⟩
  rw [← hgp] at N1
  have H1 : Hid _ := And.intro bn1 N1
  clear bn1 N1
  have he := fun W => eqPa dfl18 W
  have he2 : ∀ W, Sem.run Tryd.prog (Op.equalIn 10000 48 (.agg #[.bool false, .bool false, .int .i64 8192, .int .i64 8192, .int .i64 262144, .int .i64 65536, .bool true, .bool true, .bool false, .string ⟨#[]⟩, .string ⟨#[]⟩]) (.agg #[.bool false, .bool false, .int .i64 8192, .int .i64 8192, .int .i64 262144, .int .i64 65536, .bool true, .bool true, .bool false, .string ⟨#[]⟩, .string ⟨#[]⟩])) W = .ok true W := he
  clear he
  have HPm : Hid (∀ W, Calls Tryd.prog 24 #[.agg #[.bool false, .bool false, .int .i64 8192, .int .i64 8192, .int .i64 262144, .int .i64 65536, .bool true, .bool true, .bool false, .string ⟨#[]⟩, .string ⟨#[]⟩]] W fun e w' => e = .returned (.agg #[.bool false, .bool false, .int .i64 8192, .int .i64 8192, .int .i64 262144, .int .i64 65536, .bool true, .bool true, .bool false, .string ⟨#[]⟩, .string ⟨#[]⟩]) ∧ Below W.heap.size W w') := (fun W => tParams_any dfl18 W : ∀ W, Calls Tryd.prog 24 #[.agg #[.bool false, .bool false, .int .i64 8192, .int .i64 8192, .int .i64 262144, .int .i64 65536, .bool true, .bool true, .bool false, .string ⟨#[]⟩, .string ⟨#[]⟩]] W fun e w' => e = .returned (.agg #[.bool false, .bool false, .int .i64 8192, .int .i64 8192, .int .i64 262144, .int .i64 65536, .bool true, .bool true, .bool false, .string ⟨#[]⟩, .string ⟨#[]⟩]) ∧ Below W.heap.size W w')
  have hb : (100 < len0) ∨ (len0 ≤ 100 ∧ 100 < len1) ∨ (len0 ≤ 100 ∧ len1 ≤ 100) := by omega
  clear hlen0 hlen1
  go_enter Tryd.func5, Tryd.ntmps5
  go_upto_region 1 with fail
  rw [← hw1, ← hgp]
  clear hw1 hgp
  go_wp2_with fail
  refine (Calls.mono (tdefault w1)) ?_
  rintro e w2 ⟨rfl, b2⟩
  have B2 : Hid _ := b2
  clear b2
  go_wp2_with fail
  refine (Calls.mono (HPm.out w2)) ?_
  rintro e w3 ⟨rfl, b3⟩
  have B3 : Hid _ := below_then B2.out b3
  clear b3 B2 HPm
  go_wp2_with fail
  refine (Calls.mono (rdefault w3)) ?_
  rintro e w4 ⟨rfl, b4⟩
  have H4 : Hid _ := And.intro (below_then H1.out.1 (below_then B3.out b4)) (H1.out.2.laterB (below_then B3.out b4))
  clear b4 B3 H1
  go_upto_region 3 with fail
  clear he2
  rcases hb with hb | ⟨hb, hb1⟩ | ⟨hb, hb1⟩
  · have t1 : (100 : Int) < (len0 : Int) := by omega
    have FK : Hid _ := H4.out.1
    clear H4
    go_wp2_with fail
    refine (Calls.mono (known18_any w4 (PowT.later HP.out FK.out))) ?_
    rintro e w99 ⟨rfl, b99⟩
    have F : Hid _ := below_then FK.out b99
    clear b99 FK
    go_wp2
    go_ret
    exact ⟨rfl, F.out⟩
  · have t1 : ¬ (100 : Int) < (len0 : Int) := by omega
    have t2 : (100 : Int) < (len1 : Int) := by omega
    have FK : Hid _ := H4.out.1
    clear H4
    go_wp2_with fail
    refine (Calls.mono (known18_any w4 (PowT.later HP.out FK.out))) ?_
    rintro e w99 ⟨rfl, b99⟩
    have F : Hid _ := below_then FK.out b99
    clear b99 FK
    go_wp2
    go_ret
    exact ⟨rfl, F.out⟩
  · have t1 : ¬ (100 : Int) < (len0 : Int) := by omega
    have t2 : ¬ (100 : Int) < (len1 : Int) := by omega
    go_upto_region 5 with fail
    have y0 := ck_at H4.out.2 0
    have y1 := ck_at H4.out.2 1
    have y2 := ck_at H4.out.2 2
    have y3 := ck_at H4.out.2 3
    have y4 := ck_at H4.out.2 4
    have y5 := ck_at H4.out.2 5
    have y6 := ck_at H4.out.2 6
    have y7 := ck_at H4.out.2 7
    have y8 := ck_at H4.out.2 8
    have y9 := ck_at H4.out.2 9
    have y10 := ck_at H4.out.2 10
    simp only [List.getElem?_cons_zero, List.getElem?_cons_succ] at y0 y1 y2 y3 y4 y5 y6 y7 y8 y9 y10
    go_wp2_with fail
    refine (Calls.mono (tOwn_any p w4)) ?_
    rintro e w5 ⟨rfl, b5⟩
    have H5 : Hid _ := And.intro (below_then H4.out.1 b5) (H4.out.2.laterB b5)
    clear b5 H4 y0 y1 y2 y3 y4 y5 y6 y7 y8 y9 y10
    have HG0 := given18_any a0 cap0 l w5 (gat_later H5.out.1 HA.out.1) HA.out.2.1
    rw [← HN0.out] at HG0
    have HG : Hid _ := HG0
    clear HG0
    go_wp2_with fail
    refine (Calls.mono (HG.out)) ?_
    rintro e w6 ⟨v6, rfl, I6⟩
    clear HG
    obtain ⟨a6, c6, ez, hA6⟩ := I6.at kPr_ok
    subst ez
    have H6 : Hid _ := And.intro (below_then H5.out.1 I6.bel) (H5.out.2.laterB I6.bel)
    have HT0 := tTalk_any p a6 c6 l w6 hA6 (by have := HN0.out; omega) (fun x hx => Nat.le_trans (HA.out.2.2 x hx) (by omega)) (PowT.later HP.out H6.out.1)
    have HR0 := fun (W : World) hb => rTalk_any p a0 cap0 l W (gat_later hb HA.out.1) (by have := HN0.out; omega) HA.out.2.2
    have hol := talk_len p l
    rw [← HN0.out] at HT0 HR0 hol ⊢
    generalize talkM p l = TM at *
    obtain ⟨out, P, E⟩ := TM
    simp only at HT0 HR0 hol
    have HT : Hid (Calls Tryd.prog 27 #[.agg #[.bool p.hs, .bool p.ds, .int .i64 p.mo, .int .i64 p.mi, .int .i64 p.bu, .int .i64 p.fi, .bool p.a, .bool p.imd, .bool p.di, .string p.ini, .string p.tgt], .slice a6 len0 c6] w6 fun e w' => ∃ v, e = .returned (.tuple #[v, .agg #[.bool P.hs, .bool P.ds, .int .i64 P.mo, .int .i64 P.mi, .int .i64 P.bu, .int .i64 P.fi, .bool P.a, .bool P.imd, .bool P.di, .string P.ini, .string P.tgt], .int .i64 E]) ∧ PrI kPr w6 w' v out) := HT0
    have HR : Hid (∀ W : World, Below w.heap.size w W → Calls Tryd.prog 29 #[.agg #[.bool p.hs, .bool p.ds, .int .i64 p.mo, .int .i64 p.mi, .int .i64 p.bu, .int .i64 p.fi, .bool p.a, .bool p.imd, .bool p.di, .string p.ini, .string p.tgt], .slice a0 len0 cap0] W fun e w' => ∃ v, e = .returned (.tuple #[v, .agg #[.bool P.hs, .bool P.ds, .int .i64 P.mo, .int .i64 P.mi, .int .i64 P.bu, .int .i64 P.fi, .bool P.a, .bool P.imd, .bool P.di, .string P.ini, .string P.tgt], .int .i64 E]) ∧ PrI kRp W w' v out) := HR0
    have HOL : Hid _ := hol
    clear HT0 HR0 I6 hA6 H5 hol
    go_wp2_with fail
    refine (Calls.mono (HT.out)) ?_
    rintro e w7 ⟨v7, rfl, I7⟩
    clear HT
    obtain ⟨a7, c7, ez, hA7⟩ := I7.at kPr_ok
    subst ez
    have H7 : Hid _ := And.intro (below_then H6.out.1 I7.bel) (And.intro (H6.out.2.laterB I7.bel) hA7)
    clear I7 hA7 H6
    have N8 := Blk.new' w7 50 [.bool P.hs, .bool P.ds, .int .i64 P.mo, .int .i64 P.mi, .int .i64 P.bu, .int .i64 P.fi, .bool P.a, .bool P.imd, .bool P.di, .string P.ini, .string P.tgt]
    have bn8 : Below w7.heap.size w7 (w7.alloc (.cells #[.bool P.hs, .bool P.ds, .int .i64 P.mo, .int .i64 P.mi, .int .i64 P.bu, .int .i64 P.fi, .bool P.a, .bool P.imd, .bool P.di, .string P.ini, .string P.tgt] 50)) := (Below.refl _ _).alloc (Nat.le_refl _) _
    obtain ⟨w8, hw8⟩ : ∃ w8, w8 = w7.alloc (.cells #[.bool P.hs, .bool P.ds, .int .i64 P.mo, .int .i64 P.mi, .int .i64 P.bu, .int .i64 P.fi, .bool P.a, .bool P.imd, .bool P.di, .string P.ini, .string P.tgt] 50) := ⟨_, rfl⟩
    rw [← hw8] at N8 bn8
    obtain ⟨gb, hgb⟩ : ∃ g, g = w7.heap.size := ⟨_, rfl⟩
    rw [← hgb] at N8
    have hgbl : w.heap.size ≤ gb := by rw [hgb]; exact H7.out.1.size
    have H8 : Hid _ := And.intro (below_then H7.out.1 bn8) (And.intro (H7.out.2.1.laterB bn8) (And.intro (gat_later bn8 H7.out.2.2) (And.intro N8 hgbl)))
    clear bn8 N8 H7 hgbl
    go_upto_region 6 with fail
    rw [← hw8, ← hgb]
    clear hw8 hgb
    have y0 := ck_at H8.out.2.1 0
    have y1 := ck_at H8.out.2.1 1
    have y2 := ck_at H8.out.2.1 2
    have y3 := ck_at H8.out.2.1 3
    have y4 := ck_at H8.out.2.1 4
    have y5 := ck_at H8.out.2.1 5
    have y6 := ck_at H8.out.2.1 6
    have y7 := ck_at H8.out.2.1 7
    have y8 := ck_at H8.out.2.1 8
    have y9 := ck_at H8.out.2.1 9
    have y10 := ck_at H8.out.2.1 10
    simp only [List.getElem?_cons_zero, List.getElem?_cons_succ] at y0 y1 y2 y3 y4 y5 y6 y7 y8 y9 y10
    go_wp2_with fail
    refine (Calls.mono (HR.out w8 H8.out.1)) ?_
    rintro e w9 ⟨v9, rfl, I9⟩
    clear HR y0 y1 y2 y3 y4 y5 y6 y7 y8 y9 y10
    obtain ⟨a9, c9, ez, hA9⟩ := I9.at kRp_ok
    subst ez
    have H9 : Hid _ := And.intro (below_then H8.out.1 I9.bel) (And.intro (gat_later I9.bel H8.out.2.2.1) (And.intro (H8.out.2.2.2.1.laterB I9.bel) (And.intro hA9 H8.out.2.2.2.2)))
    clear I9 hA9 H8
    have N10 := Blk.new' w9 48 [.bool P.hs, .bool P.ds, .int .i64 P.mo, .int .i64 P.mi, .int .i64 P.bu, .int .i64 P.fi, .bool P.a, .bool P.imd, .bool P.di, .string P.ini, .string P.tgt]
    have bn10 : Below w9.heap.size w9 (w9.alloc (.cells #[.bool P.hs, .bool P.ds, .int .i64 P.mo, .int .i64 P.mi, .int .i64 P.bu, .int .i64 P.fi, .bool P.a, .bool P.imd, .bool P.di, .string P.ini, .string P.tgt] 48)) := (Below.refl _ _).alloc (Nat.le_refl _) _
    obtain ⟨w10, hw10⟩ : ∃ w10, w10 = w9.alloc (.cells #[.bool P.hs, .bool P.ds, .int .i64 P.mo, .int .i64 P.mi, .int .i64 P.bu, .int .i64 P.fi, .bool P.a, .bool P.imd, .bool P.di, .string P.ini, .string P.tgt] 48) := ⟨_, rfl⟩
    rw [← hw10] at N10 bn10
    obtain ⟨gd, hgd⟩ : ∃ g, g = w9.heap.size := ⟨_, rfl⟩
    rw [← hgd] at N10
    have hgdl : w.heap.size ≤ gd := by rw [hgd]; exact H9.out.1.size
    have hne : gb ≠ gd := by rw [hgd]; have := H9.out.2.2.1.lt; omega
    have HX : Hid (∀ W, Below w10.heap.size w10 W → Below w.heap.size w W ∧ GAt kPr W (.slice a7 out.length c7) out ∧ Blk W gb 50 [.bool P.hs, .bool P.ds, .int .i64 P.mo, .int .i64 P.mi, .int .i64 P.bu, .int .i64 P.fi, .bool P.a, .bool P.imd, .bool P.di, .string P.ini, .string P.tgt] ∧ GAt kRp W (.slice a9 out.length c9) out ∧ Blk W gd 48 [.bool P.hs, .bool P.ds, .int .i64 P.mo, .int .i64 P.mi, .int .i64 P.bu, .int .i64 P.fi, .bool P.a, .bool P.imd, .bool P.di, .string P.ini, .string P.tgt]) := (fun W hW => ⟨below_then (below_then H9.out.1 bn10) hW, gat_later (below_then bn10 hW) H9.out.2.1, H9.out.2.2.1.laterB (below_then bn10 hW), gat_later (below_then bn10 hW) H9.out.2.2.2.1, N10.laterB hW⟩ : ∀ W, Below w10.heap.size w10 W → Below w.heap.size w W ∧ GAt kPr W (.slice a7 out.length c7) out ∧ Blk W gb 50 [.bool P.hs, .bool P.ds, .int .i64 P.mo, .int .i64 P.mi, .int .i64 P.bu, .int .i64 P.fi, .bool P.a, .bool P.imd, .bool P.di, .string P.ini, .string P.tgt] ∧ GAt kRp W (.slice a9 out.length c9) out ∧ Blk W gd 48 [.bool P.hs, .bool P.ds, .int .i64 P.mo, .int .i64 P.mi, .int .i64 P.bu, .int .i64 P.fi, .bool P.a, .bool P.imd, .bool P.di, .string P.ini, .string P.tgt])
    have HGG : Hid _ := And.intro H9.out.2.2.2.2 (And.intro hgdl hne)
    clear bn10 N10 H9 hgdl hne
    go_upto_region 7 with fail
    rw [← hw10, ← hgd]
    clear hw10 hgd
    refine wp_region_held_drew (S := fun W => Below w10.heap.size w10 W) (by kernel_rfl) (by exact (Below.refl _ _).drew) (fun hS => ?_)
    obtain ⟨x0, hx0⟩ : ∃ x, x = w10.drew := ⟨_, rfl⟩
    rw [← hx0] at hS ⊢
    clear hx0
    refine any_take (i := 0) (v := ?_) rfl (by kernel_rfl) (by kernel_rfl) (by kernel_rfl) (by exact fun _ _ _ h => h) (by rfl) ?_ hS ?_
    rotate_left
    · ((intro w hSw; skip; go_simp) <;> with_reducible rfl)
    (try simp only [Act.put, List.setIfInBounds_toArray, List.set_cons_zero, List.set_cons_succ])
    refine any_take (i := 2) (v := ?_) rfl (by kernel_rfl) (by kernel_rfl) (by kernel_rfl) (by exact fun _ _ _ h => h) (by rfl) ?_ hS ?_
    rotate_left
    · ((intro w hSw; skip; go_simp) <;> with_reducible rfl)
    (try simp only [Act.put, List.setIfInBounds_toArray, List.set_cons_zero, List.set_cons_succ])
    have HK0 := fun (W : World) hW => taken18_any a7 c7 out W (HX.out W hW).2.1 (by have := HOL.out; omega)
    have HK : Hid _ := HK0
    clear HK0
    refine any_on (i := 1) rfl (by kernel_rfl) (fun K hK => ?_)
    go_simp
    refine (Calls.mono (HK.out x0 hS)) ?_
    rintro e x1 ⟨v1, rfl, J1⟩
    obtain ⟨aT, cT, ez, hAT⟩ := J1.at kRp_ok
    subst ez
    clear HK
    have hS' : Below w10.heap.size w10 x1 := below_then hS J1.bel
    go_wp2_with fail
    refine hK.out _ _ hS' (fun _ => ?_)
    clear hK K hS
    have hS := hS'
    clear hS'
    have HK0 := samePr_yes aT a9 cT c9 out x1 hAT (HX.out x1 hS).2.2.2.1 (by have := HOL.out; omega)
    have HK : Hid _ := HK0
    clear HK0 J1 hAT
    refine any_on (i := 3) rfl (by kernel_rfl) (fun K hK => ?_)
    go_simp
    refine (Calls.mono HK.out) ?_
    rintro e x2 ⟨rfl, b2⟩
    clear HK
    have hS' : Below w10.heap.size w10 x2 := below_then hS b2
    go_wp2_with fail
    refine hK.out _ _ hS' (fun _ => ?_)
    clear hK K hS
    have hS := hS'
    clear hS'
    clear b2
    refine any_take (i := 4) (v := ?_) rfl (by kernel_rfl) (by kernel_rfl) (by kernel_rfl) (by exact fun _ _ _ h => h) (by rfl) ?_ hS ?_
    rotate_left
    · ((intro w hSw; skip; go_simp) <;> with_reducible rfl)
    (try simp only [Act.put, List.setIfInBounds_toArray, List.set_cons_zero, List.set_cons_succ])
    refine any_take (i := 5) (v := ?_) rfl (by kernel_rfl) (by kernel_rfl) (by kernel_rfl) (by exact fun _ _ _ h => h) (by rfl) ?_ hS ?_
    rotate_left
    · ((intro w hSw; skip; go_simp) <;> with_reducible rfl)
    (try simp only [Act.put, List.setIfInBounds_toArray, List.set_cons_zero, List.set_cons_succ])
    refine any_take (i := 6) (v := ?_) rfl (by kernel_rfl) (by kernel_rfl) (by kernel_rfl) (by exact fun _ _ _ h => h) (by rfl) ?_ hS ?_
    rotate_left
    · ((intro w hSw; have B9 := (HX.out _ hSw).2.2.1; have q0 := ck_at B9 0; have q1 := ck_at B9 1; have q2 := ck_at B9 2; have q3 := ck_at B9 3; have q4 := ck_at B9 4; have q5 := ck_at B9 5; have q6 := ck_at B9 6; have q7 := ck_at B9 7; have q8 := ck_at B9 8; have q9 := ck_at B9 9; have q10 := ck_at B9 10; simp only [List.getElem?_cons_zero, List.getElem?_cons_succ] at q0 q1 q2 q3 q4 q5 q6 q7 q8 q9 q10; go_simp) <;> with_reducible rfl)
    (try simp only [Act.put, List.setIfInBounds_toArray, List.set_cons_zero, List.set_cons_succ])
    refine any_take (i := 8) (v := ?_) rfl (by kernel_rfl) (by kernel_rfl) (by kernel_rfl) (by exact fun _ _ _ h => h) (by rfl) ?_ hS ?_
    rotate_left
    · ((intro w hSw; have B9 := (HX.out _ hSw).2.2.2.2; have q0 := ck_at B9 0; have q1 := ck_at B9 1; have q2 := ck_at B9 2; have q3 := ck_at B9 3; have q4 := ck_at B9 4; have q5 := ck_at B9 5; have q6 := ck_at B9 6; have q7 := ck_at B9 7; have q8 := ck_at B9 8; have q9 := ck_at B9 9; have q10 := ck_at B9 10; simp only [List.getElem?_cons_zero, List.getElem?_cons_succ] at q0 q1 q2 q3 q4 q5 q6 q7 q8 q9 q10; go_simp) <;> with_reducible rfl)
    (try simp only [Act.put, List.setIfInBounds_toArray, List.set_cons_zero, List.set_cons_succ])
    refine any_on (i := 7) rfl (by kernel_rfl) (fun K hK => ?_)
    go_simp
    refine (Calls.mono (tParams_any P x2)) ?_
    rintro e x3 ⟨rfl, b3⟩
    have hS' : Below w10.heap.size w10 x3 := below_then hS b3
    go_wp2_with fail
    refine hK.out _ _ hS' (fun _ => ?_)
    clear hK K hS
    have hS := hS'
    clear hS'
    clear b3
    have he := fun W => eqPa P W
    refine any_take (i := 9) (v := ?_) rfl (by kernel_rfl) (by kernel_rfl) (by kernel_rfl) (by exact fun _ _ _ h => h) (by rfl) ?_ hS ?_
    rotate_left
    · ((intro w hSw; skip; go_simp) <;> with_reducible rfl)
    (try simp only [Act.put, List.setIfInBounds_toArray, List.set_cons_zero, List.set_cons_succ])
    clear he
    refine any_take (i := 10) (v := ?_) rfl (by kernel_rfl) (by kernel_rfl) (by kernel_rfl) (by exact fun _ _ _ h => h) (by rfl) ?_ hS ?_
    rotate_left
    · ((intro w hSw; skip; go_simp) <;> with_reducible rfl)
    (try simp only [Act.put, List.setIfInBounds_toArray, List.set_cons_zero, List.set_cons_succ])
    refine any_take (i := 11) (v := ?_) rfl (by kernel_rfl) (by kernel_rfl) (by kernel_rfl) (by exact fun _ _ _ h => h) (by rfl) ?_ hS ?_
    rotate_left
    · ((intro w hSw; skip; go_simp) <;> with_reducible rfl)
    (try simp only [Act.put, List.setIfInBounds_toArray, List.set_cons_zero, List.set_cons_succ])
    refine any_take (i := 12) (v := ?_) rfl (by kernel_rfl) (by kernel_rfl) (by kernel_rfl) (by exact fun _ _ _ h => h) (by rfl) ?_ hS ?_
    rotate_left
    · ((intro w hSw; skip; go_simp) <;> with_reducible rfl)
    (try simp only [Act.put, List.setIfInBounds_toArray, List.set_cons_zero, List.set_cons_succ])
    refine any_take (i := 13) (v := ?_) rfl (by kernel_rfl) (by kernel_rfl) (by kernel_rfl) (by exact fun _ _ _ h => h) (by rfl) ?_ hS ?_
    rotate_left
    · ((intro w hSw; skip; go_simp) <;> with_reducible rfl)
    (try simp only [Act.put, List.setIfInBounds_toArray, List.set_cons_zero, List.set_cons_succ])
    refine any_take (i := 14) (v := ?_) rfl (by kernel_rfl) (by kernel_rfl) (by kernel_rfl) (by exact fun _ _ _ h => h) (by rfl) ?_ hS ?_
    rotate_left
    · ((intro w hSw; skip; go_simp) <;> with_reducible rfl)
    (try simp only [Act.put, List.setIfInBounds_toArray, List.set_cons_zero, List.set_cons_succ])
    refine any_take (i := 15) (v := ?_) rfl (by kernel_rfl) (by kernel_rfl) (by kernel_rfl) (by exact fun _ _ _ h => h) (by rfl) ?_ hS ?_
    rotate_left
    · ((intro w hSw; skip; go_simp) <;> with_reducible rfl)
    (try simp only [Act.put, List.setIfInBounds_toArray, List.set_cons_zero, List.set_cons_succ])
    refine wpAnyH_done (by kernel_rfl) ?_ _
    have H11 : Hid _ := And.intro hS (HX.out _ hS)
    clear hS HX
    go_upto_region 9 with fail
    have HT0 := fun (a5 : Option Addr) (c5 : Nat) (W : World) hA hW => tTalk_any P a5 c5 m W hA (by have := HN1.out; omega) (fun x hx => Nat.le_trans (HM.out.2.2 x hx) (by omega)) (PowT.later HP.out hW)
    have HR0 := fun (W : World) hb => rTalk_any P a1 cap1 m W (gat_later hb HM.out.1) (by have := HN1.out; omega) HM.out.2.2
    have hol := talk_len P m
    rw [← HN1.out] at HT0 HR0 hol
    generalize talkM P m = TM at *
    obtain ⟨out2, Q, E2⟩ := TM
    simp only at HT0 HR0 hol
    have HT : Hid (∀ (a5 : Option Addr) (c5 : Nat) (W : World), GAt kPr W (.slice a5 len1 c5) m → Below w.heap.size w W → Calls Tryd.prog 27 #[.agg #[.bool P.hs, .bool P.ds, .int .i64 P.mo, .int .i64 P.mi, .int .i64 P.bu, .int .i64 P.fi, .bool P.a, .bool P.imd, .bool P.di, .string P.ini, .string P.tgt], .slice a5 len1 c5] W fun e w' => ∃ v, e = .returned (.tuple #[v, .agg #[.bool Q.hs, .bool Q.ds, .int .i64 Q.mo, .int .i64 Q.mi, .int .i64 Q.bu, .int .i64 Q.fi, .bool Q.a, .bool Q.imd, .bool Q.di, .string Q.ini, .string Q.tgt], .int .i64 E2]) ∧ PrI kPr W w' v out2) := HT0
    have HR : Hid (∀ W : World, Below w.heap.size w W → Calls Tryd.prog 29 #[.agg #[.bool P.hs, .bool P.ds, .int .i64 P.mo, .int .i64 P.mi, .int .i64 P.bu, .int .i64 P.fi, .bool P.a, .bool P.imd, .bool P.di, .string P.ini, .string P.tgt], .slice a1 len1 cap1] W fun e w' => ∃ v, e = .returned (.tuple #[v, .agg #[.bool Q.hs, .bool Q.ds, .int .i64 Q.mo, .int .i64 Q.mi, .int .i64 Q.bu, .int .i64 Q.fi, .bool Q.a, .bool Q.imd, .bool Q.di, .string Q.ini, .string Q.tgt], .int .i64 E2]) ∧ PrI kRp W w' v out2) := HR0
    have HOL2 : Hid _ := hol
    clear HT0 HR0 hol HOL
    have HG : Hid (∀ W : World, Below w.heap.size w W → Calls Tryd.prog 11 #[.slice a1 len1 cap1] W fun e w' => ∃ v, e = .returned v ∧ PrI kPr W w' v m) := (fun W hW => by have h := given18_any a1 cap1 m W (gat_later hW HM.out.1) HM.out.2.1; rw [← HN1.out] at h; exact h : ∀ W : World, Below w.heap.size w W → Calls Tryd.prog 11 #[.slice a1 len1 cap1] W fun e w' => ∃ v, e = .returned v ∧ PrI kPr W w' v m)
    obtain ⟨w11, hw11⟩ : ∃ x, x = x3 := ⟨_, rfl⟩
    rw [← hw11] at H11 ⊢
    clear hw11
    have HY : Hid (∀ W, Below w11.heap.size w11 W → Below w.heap.size w W ∧ Blk W gb 50 [.bool P.hs, .bool P.ds, .int .i64 P.mo, .int .i64 P.mi, .int .i64 P.bu, .int .i64 P.fi, .bool P.a, .bool P.imd, .bool P.di, .string P.ini, .string P.tgt] ∧ Blk W gd 48 [.bool P.hs, .bool P.ds, .int .i64 P.mo, .int .i64 P.mi, .int .i64 P.bu, .int .i64 P.fi, .bool P.a, .bool P.imd, .bool P.di, .string P.ini, .string P.tgt]) := (fun W hW => ⟨below_then H11.out.2.1 hW, H11.out.2.2.2.1.laterB hW, H11.out.2.2.2.2.2.laterB hW⟩ : ∀ W, Below w11.heap.size w11 W → Below w.heap.size w W ∧ Blk W gb 50 [.bool P.hs, .bool P.ds, .int .i64 P.mo, .int .i64 P.mi, .int .i64 P.bu, .int .i64 P.fi, .bool P.a, .bool P.imd, .bool P.di, .string P.ini, .string P.tgt] ∧ Blk W gd 48 [.bool P.hs, .bool P.ds, .int .i64 P.mo, .int .i64 P.mi, .int .i64 P.bu, .int .i64 P.fi, .bool P.a, .bool P.imd, .bool P.di, .string P.ini, .string P.tgt])
    clear H11
    refine f_begin (S := fun W => Below w11.heap.size w11 W) [5, 6, 7, 8, 9, 10] (by kernel_rfl) (by exact (Below.refl _ _).drew) (fun hS => ?_)
    obtain ⟨x0, hx0⟩ : ∃ x, x = w11.drew := ⟨_, rfl⟩
    rw [← hx0] at hS ⊢
    clear hx0
    refine f_tree (i := 0) (v := ?_) [3, 4, 5, 6, 7, 8, 9, 10] rfl (by kernel_rfl) (by kernel_rfl) (by kernel_rfl) (by kernel_rfl) (by exact fun _ _ _ h => h) (by rfl) ?_ hS ?_
    rotate_left
    · ((intro W hSW; have B9 := (HY.out _ hSW).2.1; have q0 := ck_at B9 0; have q1 := ck_at B9 1; have q2 := ck_at B9 2; have q3 := ck_at B9 3; have q4 := ck_at B9 4; have q5 := ck_at B9 5; have q6 := ck_at B9 6; have q7 := ck_at B9 7; have q8 := ck_at B9 8; have q9 := ck_at B9 9; have q10 := ck_at B9 10; simp only [List.getElem?_cons_zero, List.getElem?_cons_succ] at q0 q1 q2 q3 q4 q5 q6 q7 q8 q9 q10; go_simp) <;> with_reducible rfl)
    (try simp only [Act.put, List.setIfInBounds_toArray, List.set_cons_zero, List.set_cons_succ])
    refine f_tree (i := 1) (v := ?_) [2, 3, 4, 5, 6, 7, 8, 9, 10] rfl (by kernel_rfl) (by kernel_rfl) (by kernel_rfl) (by kernel_rfl) (by exact fun _ _ _ h => h) (by rfl) ?_ hS ?_
    rotate_left
    · ((intro W hSW; clear hSW; go_simp) <;> with_reducible rfl)
    (try simp only [Act.put, List.setIfInBounds_toArray, List.set_cons_zero, List.set_cons_succ])
    refine f_one (i := 2) rfl (by kernel_rfl) (fun K hK => ?_)
    go_simp
    refine (Calls.mono (HG.out x0 (HY.out _ hS).1)) ?_
    rintro e y1 ⟨v5, rfl, I5⟩
    obtain ⟨a5, c5, ez, hA5⟩ := I5.at kPr_ok
    have ez2 : v5 = .slice a5 len1 c5 := by rw [ez, HN1.out]
    subst ez2
    clear ez
    have hS' : Below w11.heap.size w11 y1 := below_then hS I5.bel
    go_wp2_with fail
    refine hK.out _ _ hS' (fun _ => ?_)
    clear hK K hS
    have hS := hS'
    clear hS'
    have HGY : Hid _ := And.intro (HY.out y1 hS).2.1.lt (HY.out y1 hS).2.2.lt
    refine f_one (i := 3) rfl (by kernel_rfl) (fun K hK => ?_)
    go_simp
    refine (Calls.mono (HT.out a5 c5 y1 hA5 (HY.out _ hS).1)) ?_
    rintro e y2 ⟨v6, rfl, I6⟩
    obtain ⟨a6, c6, ez6, hA6⟩ := I6.at kPr_ok
    subst ez6
    have hS' : Below w11.heap.size w11 y2 := below_then hS I6.bel
    go_wp2_with fail
    refine hK.out _ _ hS' (fun _ => ?_)
    clear hK K hS
    have hS := hS'
    clear hS'
    have HO6 : Hid _ := I6.own
    clear I5 hA5 I6 HG HT hA6
    refine f_tree (i := 4) (v := ?_) [5, 6, 7, 8, 9, 10] rfl (by kernel_rfl) (by kernel_rfl) (by kernel_rfl) (by kernel_rfl) (by exact fun _ _ _ h => h) (by rfl) ?_ hS ?_
    rotate_left
    · ((intro W hSW; clear hSW; go_simp) <;> with_reducible rfl)
    (try simp only [Act.put, List.setIfInBounds_toArray, List.set_cons_zero, List.set_cons_succ])
    refine f_pure (i := 5) (v := ?_) rfl (by simp) (by kernel_rfl) (by kernel_rfl) (by kernel_rfl) (by exact fun _ _ _ h => h) (by rfl) ?_ ?_
    rotate_left
    · ((intro W; go_simp) <;> with_reducible rfl)
    (try simp only [Act.put, List.setIfInBounds_toArray, List.set_cons_zero, List.set_cons_succ])
    refine f_pure (i := 6) (v := ?_) rfl (by simp) (by kernel_rfl) (by kernel_rfl) (by kernel_rfl) (by exact fun _ _ _ h => h) (by rfl) ?_ ?_
    rotate_left
    · ((intro W; go_simp) <;> with_reducible rfl)
    (try simp only [Act.put, List.setIfInBounds_toArray, List.set_cons_zero, List.set_cons_succ])
    refine f_pure (i := 7) (v := ?_) rfl (by simp) (by kernel_rfl) (by kernel_rfl) (by kernel_rfl) (by exact fun _ _ _ h => h) (by rfl) ?_ ?_
    rotate_left
    · ((intro W; go_simp) <;> with_reducible rfl)
    (try simp only [Act.put, List.setIfInBounds_toArray, List.set_cons_zero, List.set_cons_succ])
    refine f_pure (i := 8) (v := ?_) rfl (by simp) (by kernel_rfl) (by kernel_rfl) (by kernel_rfl) (by exact fun _ _ _ h => h) (by rfl) ?_ ?_
    rotate_left
    · ((intro W; go_simp) <;> with_reducible rfl)
    (try simp only [Act.put, List.setIfInBounds_toArray, List.set_cons_zero, List.set_cons_succ])
    have hbW := HY.out _ hS
    obtain ⟨w12, st, B12, g12⟩ := storeW (T := 50) (vs := [.bool Q.hs, .bool Q.ds, .int .i64 Q.mo, .int .i64 Q.mi, .int .i64 Q.bu, .int .i64 Q.fi, .bool Q.a, .bool Q.imd, .bool Q.di, .string Q.ini, .string Q.tgt]) size_pa hbW.2.1 rfl (fun u hu => by simp at hu; rcases hu with rfl | rfl | rfl | rfl | rfl | rfl | rfl | rfl | rfl | rfl | rfl <;> rfl)
    have H12 : Hid _ := And.intro (hbW.1.grown g12 hbW.1.size (fun k e => by cases e; exact HGG.out.1)) (And.intro (own_past HO6.out g12 HGY.out.1) (And.intro B12 (hbW.2.2.grown g12 (fun e => HGG.out.2.2 (Option.some.inj e).symm))))
    clear hS B12 g12 hbW HO6 HY
    refine f_last (i := 9) rfl (by simp) (by kernel_rfl) (fun K hK => ?_)
    unfold Oper.wp
    rw [exec_store rfl rfl rfl st]
    refine hK.out _ _ ?_
    clear hK K st
    refine f_last (i := 10) rfl (by simp) (by kernel_rfl) (fun K hK => ?_)
    go_simp
    refine hK.out _ _ ?_
    clear hK K
    refine f_done (by kernel_rfl) ?_ _
    have y0 := ck_at H12.out.2.2.2 0
    have y1 := ck_at H12.out.2.2.2 1
    have y2 := ck_at H12.out.2.2.2 2
    have y3 := ck_at H12.out.2.2.2 3
    have y4 := ck_at H12.out.2.2.2 4
    have y5 := ck_at H12.out.2.2.2 5
    have y6 := ck_at H12.out.2.2.2 6
    have y7 := ck_at H12.out.2.2.2 7
    have y8 := ck_at H12.out.2.2.2 8
    have y9 := ck_at H12.out.2.2.2 9
    have y10 := ck_at H12.out.2.2.2 10
    simp only [List.getElem?_cons_zero, List.getElem?_cons_succ] at y0 y1 y2 y3 y4 y5 y6 y7 y8 y9 y10
    go_wp2_with fail
    refine (Calls.mono (HR.out w12 H12.out.1)) ?_
    rintro e w13 ⟨v13, rfl, I13⟩
    clear HR y0 y1 y2 y3 y4 y5 y6 y7 y8 y9 y10
    obtain ⟨a13, c13, ez, hA13⟩ := I13.at kRp_ok
    subst ez
    clear hA13
    have hd13 := H12.out.2.2.2.laterB I13.bel
    obtain ⟨w14, st, B14, g14⟩ := storeW (T := 48) (vs := [.bool Q.hs, .bool Q.ds, .int .i64 Q.mo, .int .i64 Q.mi, .int .i64 Q.bu, .int .i64 Q.fi, .bool Q.a, .bool Q.imd, .bool Q.di, .string Q.ini, .string Q.tgt]) size_rpa hd13 rfl (fun u hu => by simp at hu; rcases hu with rfl | rfl | rfl | rfl | rfl | rfl | rfl | rfl | rfl | rfl | rfl <;> rfl)
    have hb14 : Below w.heap.size w w14 := (below_then H12.out.1 I13.bel).grown g14 (below_then H12.out.1 I13.bel).size (fun k e => by cases e; exact HGG.out.2.1)
    have hp14 := own_at kPr_ok (own_past (own_later H12.out.2.1 I13.bel) g14 HGY.out.2)
    have hq14 := own_at kRp_ok (own_past I13.own g14 H12.out.2.2.2.lt)
    have hb14b := (H12.out.2.2.1.laterB I13.bel).grown g14 (fun e => HGG.out.2.2 (Option.some.inj e))
    have HZ : Hid (∀ W, Below w14.heap.size w14 W → Below w.heap.size w W ∧ GAt kPr W (.slice a6 out2.length c6) out2 ∧ Blk W gb 50 [.bool Q.hs, .bool Q.ds, .int .i64 Q.mo, .int .i64 Q.mi, .int .i64 Q.bu, .int .i64 Q.fi, .bool Q.a, .bool Q.imd, .bool Q.di, .string Q.ini, .string Q.tgt] ∧ GAt kRp W (.slice a13 out2.length c13) out2 ∧ Blk W gd 48 [.bool Q.hs, .bool Q.ds, .int .i64 Q.mo, .int .i64 Q.mi, .int .i64 Q.bu, .int .i64 Q.fi, .bool Q.a, .bool Q.imd, .bool Q.di, .string Q.ini, .string Q.tgt]) := (fun W hW => ⟨below_then hb14 hW, gat_later hW hp14, hb14b.laterB hW, gat_later hW hq14, B14.laterB hW⟩ : ∀ W, Below w14.heap.size w14 W → Below w.heap.size w W ∧ GAt kPr W (.slice a6 out2.length c6) out2 ∧ Blk W gb 50 [.bool Q.hs, .bool Q.ds, .int .i64 Q.mo, .int .i64 Q.mi, .int .i64 Q.bu, .int .i64 Q.fi, .bool Q.a, .bool Q.imd, .bool Q.di, .string Q.ini, .string Q.tgt] ∧ GAt kRp W (.slice a13 out2.length c13) out2 ∧ Blk W gd 48 [.bool Q.hs, .bool Q.ds, .int .i64 Q.mo, .int .i64 Q.mi, .int .i64 Q.bu, .int .i64 Q.fi, .bool Q.a, .bool Q.imd, .bool Q.di, .string Q.ini, .string Q.tgt])
    clear hb14 hp14 hq14 hb14b B14 g14 hd13 I13 H12 HGY HGG
    go_upto_region 11 with (refine wpList_skip rfl (exec_store rfl rfl rfl st) ?_)
    clear st
    refine wp_region_held_drew (S := fun W => Below w14.heap.size w14 W) (by kernel_rfl) (by exact (Below.refl _ _).drew) (fun hS => ?_)
    obtain ⟨x0, hx0⟩ : ∃ x, x = w14.drew := ⟨_, rfl⟩
    rw [← hx0] at hS ⊢
    clear hx0
    refine any_take (i := 0) (v := ?_) rfl (by kernel_rfl) (by kernel_rfl) (by kernel_rfl) (by exact fun _ _ _ h => h) (by rfl) ?_ hS ?_
    rotate_left
    · ((intro w hSw; skip; go_simp) <;> with_reducible rfl)
    (try simp only [Act.put, List.setIfInBounds_toArray, List.set_cons_zero, List.set_cons_succ])
    refine any_take (i := 2) (v := ?_) rfl (by kernel_rfl) (by kernel_rfl) (by kernel_rfl) (by exact fun _ _ _ h => h) (by rfl) ?_ hS ?_
    rotate_left
    · ((intro w hSw; skip; go_simp) <;> with_reducible rfl)
    (try simp only [Act.put, List.setIfInBounds_toArray, List.set_cons_zero, List.set_cons_succ])
    have HK0 := fun (W : World) hW => taken18_any a6 c6 out2 W (HZ.out W hW).2.1 (by have := HOL2.out; omega)
    have HK : Hid _ := HK0
    clear HK0
    refine any_on (i := 1) rfl (by kernel_rfl) (fun K hK => ?_)
    go_simp
    refine (Calls.mono (HK.out x0 hS)) ?_
    rintro e x1 ⟨v1, rfl, J1⟩
    obtain ⟨aT, cT, ez, hAT⟩ := J1.at kRp_ok
    subst ez
    clear HK
    have hS' : Below w14.heap.size w14 x1 := below_then hS J1.bel
    go_wp2_with fail
    refine hK.out _ _ hS' (fun _ => ?_)
    clear hK K hS
    have hS := hS'
    clear hS'
    have HK0 := samePr_yes aT a13 cT c13 out2 x1 hAT (HZ.out x1 hS).2.2.2.1 (by have := HOL2.out; omega)
    have HK : Hid _ := HK0
    clear HK0 J1 hAT
    refine any_on (i := 3) rfl (by kernel_rfl) (fun K hK => ?_)
    go_simp
    refine (Calls.mono HK.out) ?_
    rintro e x2 ⟨rfl, b2⟩
    clear HK
    have hS' : Below w14.heap.size w14 x2 := below_then hS b2
    go_wp2_with fail
    refine hK.out _ _ hS' (fun _ => ?_)
    clear hK K hS
    have hS := hS'
    clear hS'
    clear b2
    refine any_take (i := 4) (v := ?_) rfl (by kernel_rfl) (by kernel_rfl) (by kernel_rfl) (by exact fun _ _ _ h => h) (by rfl) ?_ hS ?_
    rotate_left
    · ((intro w hSw; skip; go_simp) <;> with_reducible rfl)
    (try simp only [Act.put, List.setIfInBounds_toArray, List.set_cons_zero, List.set_cons_succ])
    refine any_take (i := 5) (v := ?_) rfl (by kernel_rfl) (by kernel_rfl) (by kernel_rfl) (by exact fun _ _ _ h => h) (by rfl) ?_ hS ?_
    rotate_left
    · ((intro w hSw; have B9 := (HZ.out _ hSw).2.2.1; have q0 := ck_at B9 0; have q1 := ck_at B9 1; have q2 := ck_at B9 2; have q3 := ck_at B9 3; have q4 := ck_at B9 4; have q5 := ck_at B9 5; have q6 := ck_at B9 6; have q7 := ck_at B9 7; have q8 := ck_at B9 8; have q9 := ck_at B9 9; have q10 := ck_at B9 10; simp only [List.getElem?_cons_zero, List.getElem?_cons_succ] at q0 q1 q2 q3 q4 q5 q6 q7 q8 q9 q10; go_simp) <;> with_reducible rfl)
    (try simp only [Act.put, List.setIfInBounds_toArray, List.set_cons_zero, List.set_cons_succ])
    refine any_take (i := 7) (v := ?_) rfl (by kernel_rfl) (by kernel_rfl) (by kernel_rfl) (by exact fun _ _ _ h => h) (by rfl) ?_ hS ?_
    rotate_left
    · ((intro w hSw; have B9 := (HZ.out _ hSw).2.2.2.2; have q0 := ck_at B9 0; have q1 := ck_at B9 1; have q2 := ck_at B9 2; have q3 := ck_at B9 3; have q4 := ck_at B9 4; have q5 := ck_at B9 5; have q6 := ck_at B9 6; have q7 := ck_at B9 7; have q8 := ck_at B9 8; have q9 := ck_at B9 9; have q10 := ck_at B9 10; simp only [List.getElem?_cons_zero, List.getElem?_cons_succ] at q0 q1 q2 q3 q4 q5 q6 q7 q8 q9 q10; go_simp) <;> with_reducible rfl)
    (try simp only [Act.put, List.setIfInBounds_toArray, List.set_cons_zero, List.set_cons_succ])
    refine any_on (i := 6) rfl (by kernel_rfl) (fun K hK => ?_)
    go_simp
    refine (Calls.mono (tParams_any Q x2)) ?_
    rintro e x3 ⟨rfl, b3⟩
    have hS' : Below w14.heap.size w14 x3 := below_then hS b3
    go_wp2_with fail
    refine hK.out _ _ hS' (fun _ => ?_)
    clear hK K hS
    have hS := hS'
    clear hS'
    clear b3
    have he := fun W => eqPa Q W
    refine any_take (i := 8) (v := ?_) rfl (by kernel_rfl) (by kernel_rfl) (by kernel_rfl) (by exact fun _ _ _ h => h) (by rfl) ?_ hS ?_
    rotate_left
    · ((intro w hSw; skip; go_simp) <;> with_reducible rfl)
    (try simp only [Act.put, List.setIfInBounds_toArray, List.set_cons_zero, List.set_cons_succ])
    clear he
    refine any_take (i := 9) (v := ?_) rfl (by kernel_rfl) (by kernel_rfl) (by kernel_rfl) (by exact fun _ _ _ h => h) (by rfl) ?_ hS ?_
    rotate_left
    · ((intro w hSw; skip; go_simp) <;> with_reducible rfl)
    (try simp only [Act.put, List.setIfInBounds_toArray, List.set_cons_zero, List.set_cons_succ])
    refine any_take (i := 10) (v := ?_) rfl (by kernel_rfl) (by kernel_rfl) (by kernel_rfl) (by exact fun _ _ _ h => h) (by rfl) ?_ hS ?_
    rotate_left
    · ((intro w hSw; skip; go_simp) <;> with_reducible rfl)
    (try simp only [Act.put, List.setIfInBounds_toArray, List.set_cons_zero, List.set_cons_succ])
    refine any_take (i := 11) (v := ?_) rfl (by kernel_rfl) (by kernel_rfl) (by kernel_rfl) (by exact fun _ _ _ h => h) (by rfl) ?_ hS ?_
    rotate_left
    · ((intro w hSw; skip; go_simp) <;> with_reducible rfl)
    (try simp only [Act.put, List.setIfInBounds_toArray, List.set_cons_zero, List.set_cons_succ])
    refine any_take (i := 12) (v := ?_) rfl (by kernel_rfl) (by kernel_rfl) (by kernel_rfl) (by exact fun _ _ _ h => h) (by rfl) ?_ hS ?_
    rotate_left
    · ((intro w hSw; skip; go_simp) <;> with_reducible rfl)
    (try simp only [Act.put, List.setIfInBounds_toArray, List.set_cons_zero, List.set_cons_succ])
    refine any_take (i := 13) (v := ?_) rfl (by kernel_rfl) (by kernel_rfl) (by kernel_rfl) (by exact fun _ _ _ h => h) (by rfl) ?_ hS ?_
    rotate_left
    · ((intro w hSw; skip; go_simp) <;> with_reducible rfl)
    (try simp only [Act.put, List.setIfInBounds_toArray, List.set_cons_zero, List.set_cons_succ])
    refine any_take (i := 14) (v := ?_) rfl (by kernel_rfl) (by kernel_rfl) (by kernel_rfl) (by exact fun _ _ _ h => h) (by rfl) ?_ hS ?_
    rotate_left
    · ((intro w hSw; skip; go_simp) <;> with_reducible rfl)
    (try simp only [Act.put, List.setIfInBounds_toArray, List.set_cons_zero, List.set_cons_succ])
    refine any_take (i := 15) (v := ?_) rfl (by kernel_rfl) (by kernel_rfl) (by kernel_rfl) (by exact fun _ _ _ h => h) (by rfl) ?_ hS ?_
    rotate_left
    · ((intro w hSw; skip; go_simp) <;> with_reducible rfl)
    (try simp only [Act.put, List.setIfInBounds_toArray, List.set_cons_zero, List.set_cons_succ])
    refine any_on (i := 16) rfl (by kernel_rfl) (fun K hK => ?_)
    go_simp
    refine (Calls.mono (known18_any x3 (PowT.later HP.out (HZ.out x3 hS).1))) ?_
    rintro e x4 ⟨rfl, b4⟩
    have hS' : Below w14.heap.size w14 x4 := below_then hS b4
    go_wp2_with fail
    refine hK.out _ _ hS' (fun _ => ?_)
    clear hK K hS
    have hS := hS'
    clear hS'
    clear b4
    refine any_take (i := 17) (v := ?_) rfl (by kernel_rfl) (by kernel_rfl) (by kernel_rfl) (by exact fun _ _ _ h => h) (by rfl) ?_ hS ?_
    rotate_left
    · ((intro w hSw; skip; go_simp) <;> with_reducible rfl)
    (try simp only [Act.put, List.setIfInBounds_toArray, List.set_cons_zero, List.set_cons_succ])
    refine any_take (i := 18) (v := ?_) rfl (by kernel_rfl) (by kernel_rfl) (by kernel_rfl) (by exact fun _ _ _ h => h) (by rfl) ?_ hS ?_
    rotate_left
    · ((intro w hSw; skip; go_simp) <;> with_reducible rfl)
    (try simp only [Act.put, List.setIfInBounds_toArray, List.set_cons_zero, List.set_cons_succ])
    refine wpAnyH_done (by kernel_rfl) ?_ _
    have F : Hid _ := (HZ.out x4 hS).1
    clear hS HZ
    go_wp2
    go_ret
    exact ⟨rfl, F.out⟩
end Go.Proofs.YtligmiajlbjecaaDoor

