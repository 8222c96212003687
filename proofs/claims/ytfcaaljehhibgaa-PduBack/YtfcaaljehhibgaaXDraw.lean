/- A drawn statement, taken step by step: the condition on the world may grow stronger on the way. -/
import Derived.Test.YtfcaaljehhibgaaXAid
import Derived.Deep.RegionHeldLaw
namespace Go.Proofs.Ytfcaaljehhibgaa
open Go.RowKit
variable {P : Program} {Q : Exit → Act → World → Prop} {md : Region.Mode} {S : World → Prop}

theorem any_weaken {ops : Array Oper} {S' : World → Prop} (hs : ∀ w, S' w → S w) : ∀ (fuel : Nat) (listed : Array Bool) (a : Act) (w : World), wpAnyH P md ops Q S' fuel listed a w → wpAnyH P md ops Q S fuel listed a w
  | 0, _, _, _, h => h
  | fuel + 1, _, _, _, h => ⟨h.1, fun i hi => wpOp_mono (fun a' w' h' => ⟨hs _ h'.1, any_weaken hs fuel _ a' w' h'.2⟩) (h.2 i hi)⟩
theorem drop_at {α : Type} {L : List α} {i : Nat} {x : α} {r : List α} (h : L.drop i = x :: r) : L.toArray[i]? = some x := by
  have e : (L.drop i)[0]? = some x := by rw [h]; rfl
  rw [List.getElem?_drop] at e
  simpa using e
/-- take number i first -/
theorem any_take {L : List Oper} {i : Nat} {oi : Oper} {r : List Oper} (hL : L.drop i = oi :: r) {v : Value} {fuel : Nat} {listed : Array Bool} {a : Act} {w : World}
    (hs : Region.noSelect L.toArray = true) (hf : Region.free md L.toArray listed i = true) (hr : (Region.ready md L.toArray listed).contains i = true)
    (hQ : ∀ c a w, Q (.panic c) (a.put oi.dst v) w → Q (.panic c) a w) (hw : Region.wanted oi (yielded L.toArray a.tmps) = true) (hy : ∀ w, S w → (execOp a.eval oi).run P w = .ok (.value v) w) (hS : S w)
    (h : wpAnyH P md L.toArray Q S fuel (listed.setIfInBounds i true) (a.put oi.dst v) w) : wpAnyH P md L.toArray Q S (fuel + 1) listed a w :=
  wpAnyH_take (drop_at hL) hs hf hr hQ (.inl ⟨hw, hy⟩) hS h
/-- number i is not wanted -/
theorem any_skip {L : List Oper} {i : Nat} {oi : Oper} {r : List Oper} (hL : L.drop i = oi :: r) {fuel : Nat} {listed : Array Bool} {a : Act} {w : World}
    (hs : Region.noSelect L.toArray = true) (hf : Region.free md L.toArray listed i = true) (hr : (Region.ready md L.toArray listed).contains i = true)
    (hQ : ∀ c a w, Q (.panic c) (a.put oi.dst undef) w → Q (.panic c) a w) (hw : Region.wanted oi (yielded L.toArray a.tmps) = false) (hS : S w)
    (h : wpAnyH P md L.toArray Q S fuel (listed.setIfInBounds i true) (a.put oi.dst undef) w) : wpAnyH P md L.toArray Q S (fuel + 1) listed a w :=
  wpAnyH_take (drop_at hL) hs hf hr hQ (.inr ⟨hw, rfl⟩) hS h
/-- number i is all that may come up -/
theorem any_one {L : List Oper} {i : Nat} {o : Oper} {r : List Oper} (hL : L.drop i = o :: r) {fuel : Nat} {listed : Array Bool} {a : Act} {w : World} (hr : Region.ready md L.toArray listed = [i])
    (h : ∀ K' : Act → World → Prop, Shut (∀ a w, S w → wpAnyH P md L.toArray Q S fuel (listed.setIfInBounds i true) a w → K' a w) → if Region.wanted o (yielded L.toArray a.tmps) = true then Oper.wp P o a w K' Q else K' (a.put o.dst undef) w) :
    wpAnyH P md L.toArray Q S (fuel + 1) listed a w :=
  wpAnyH_ready hr (by simp) (AllReadyH.cons (drop_at hL) (fun K' hK => h K' (fun a w hS hW => hK.out a w hS (fun _ => hW))) AllReadyH.nil)
/-- the same, and the condition is handed on -/
theorem any_on {L : List Oper} {i : Nat} {o : Oper} {r : List Oper} (hL : L.drop i = o :: r) {fuel : Nat} {listed : Array Bool} {a : Act} {w : World} (hr : Region.ready md L.toArray listed = [i])
    (h : ∀ K' : Act → World → Prop, Shut (∀ a w, S w → (S w → wpAnyH P md L.toArray Q S fuel (listed.setIfInBounds i true) a w) → K' a w) → if Region.wanted o (yielded L.toArray a.tmps) = true then Oper.wp P o a w K' Q else K' (a.put o.dst undef) w) :
    wpAnyH P md L.toArray Q S (fuel + 1) listed a w :=
  wpAnyH_ready hr (by simp) (AllReadyH.cons (drop_at hL) h AllReadyH.nil)
end Go.Proofs.Ytfcaaljehhibgaa

/- A drawn statement whose last operation (a store, say) need not keep the condition. -/
namespace Go.Proofs.Ytfcaaljehhibgaa
open Go.RowKit
variable {P : Program} {Q : Exit → Act → World → Prop} {md : Region.Mode} {S : World → Prop} {z : Nat}

/-- whatever order is picked, and S holds behind each operation but number z -/
def anyE (P : Program) (md : Region.Mode) (ops : Array Oper) (Q : Exit → Act → World → Prop) (S : World → Prop) (z : Nat) : Nat → Array Bool → Act → World → Prop
  | 0, listed, a, w => Region.ready md ops listed = [] ∧ Q .normal a w
  | fuel + 1, listed, a, w =>
    (Region.ready md ops listed = [] → Q .normal a w) ∧
    ∀ i ∈ Region.ready md ops listed, wpOp P ops Q i (fun a' w' => (i = z ∨ S w') ∧ anyE P md ops Q S z fuel (listed.setIfInBounds i true) a' w') a w
theorem any_of_e {ops : Array Oper} : ∀ (fuel : Nat) (listed : Array Bool) (a : Act) (w : World), anyE P md ops Q S z fuel listed a w → wpAny P md ops Q fuel listed a w
  | 0, _, _, _, h => h
  | fuel + 1, _, _, _, h => ⟨h.1, fun i hi => wpOp_mono (fun a' w' h' => any_of_e fuel _ a' w' h'.2) (h.2 i hi)⟩
/-- each one of these waits for the one ahead, the first one for i -/
def waitsB (md : Region.Mode) (ops : Array Oper) : Nat → List Nat → Bool
  | _, [] => true
  | i, c :: cs => (match ops[c]? with | some oc => oc.after.any (fun e => Region.binds md e && e.on == i) | none => false) && waitsB md ops c cs
theorem not_ready {ops : Array Oper} {listed : Array Bool} {j : Nat} (hj : j ∈ Region.ready md ops listed) : ∀ (cs : List Nat) (i : Nat), waitsB md ops i cs = true → listed.getD i true = false → (∀ c ∈ cs, listed.getD c true = false) → j ∉ cs
  | [], _, _, _, _ => by simp
  | c :: cs, i, hw, hi, hc => by
    simp only [waitsB, Bool.and_eq_true] at hw
    have ih := not_ready hj cs c hw.2 (hc c (by simp)) (fun k hk => hc k (by simp [hk]))
    intro hm
    rcases List.mem_cons.1 hm with rfl | hm
    · obtain ⟨h0, o, ho, hall⟩ := mem_ready.1 hj
      have h1 := hw.1
      rw [ho] at h1
      obtain ⟨n, hn, h2⟩ : ∃ n, ∃ h : n < o.after.size, Region.binds md o.after[n] = true ∧ o.after[n].on = i := by simpa using h1
      have he : o.after[n] ∈ o.after := Array.getElem_mem hn
      generalize o.after[n] = e at *
      have h3 := hall e he h2.1
      rw [h2.2] at h3
      rcases Nat.lt_or_ge i listed.size with h' | h'
      · simp [h'] at hi h3; rw [hi] at h3; cases h3
      · simp [Array.getElem?_eq_none h'] at h3
    · exact ih hm
theorem anyE_first {ops : Array Oper} {i : Nat} {oi : Oper} {v : Value} (cs : List Nat) (hz : z ∈ cs) (hwait : waitsB md ops i cs = true) (hi : ops[i]? = some oi) (hsel : ∀ (j : Nat) (o : Oper) cs b, ops[j]? = some o → o.op ≠ .select cs b)
    (hQ : ∀ c a w, Q (.panic c) (a.put oi.dst v) w → Q (.panic c) a w) :
    ∀ (fuel : Nat) (listed : Array Bool) (a : Act) (w : World),
      (∀ c ∈ cs, listed.getD c true = false) →
      (∀ j oj, ops[j]? = some oj → j ≠ i → listed.getD j true = false → (∀ e ∈ oj.after, Region.binds md e = true → e.on ≠ i) → oi.apart ops oj = true) →
      i ∈ Region.ready md ops listed → YieldsIf P ops S oi v a → S w →
      anyE P md ops Q S z fuel (listed.setIfInBounds i true) (a.put oi.dst v) w → anyE P md ops Q S z (fuel + 1) listed a w := by
  intro fuel
  induction fuel with
  | zero =>
    intro listed a w _ _ hr hy hS H
    refine ⟨fun h => (by rw [h] at hr; cases hr), fun j hj => ?_⟩
    by_cases hji : j = i
    · subst hji; exact hy.wpOp hi hS ⟨.inr hS, H⟩
    · have := ready_mono hj hji
      rw [H.1] at this
      cases this
  | succ fuel ih =>
    intro listed a w hun hfree hr hy hS H
    refine ⟨fun h => (by rw [h] at hr; cases hr), fun j hj => ?_⟩
    by_cases hji : j = i
    · subst hji; exact hy.wpOp hi hS ⟨.inr hS, H⟩
    · have hnj := not_ready hj cs i hwait (mem_ready.1 hr).1 hun
      have hjz : j ≠ z := fun e => hnj (e ▸ hz)
      have h1 := H.2 j (ready_mono hj hji)
      obtain ⟨hjun, oj, hoj, hall⟩ := mem_ready.1 hj
      have hnot : ∀ e ∈ oj.after, Region.binds md e = true → e.on ≠ i := fun e he hb heq => by
        have h1 := hall e he hb
        have h0 := (mem_ready.1 hr).1
        rw [heq] at h1
        rcases Nat.lt_or_ge i listed.size with h' | h'
        · simp [h'] at h0 h1; rw [h0] at h1; cases h1
        · simp [Array.getElem?_eq_none h'] at h1
      have h2 := wpOp_putIf hoj (hfree j oj hoj hji hjun hnot) (fun cs b => hsel i oi cs b hi) (fun cs b => hsel j oj cs b hoj) hQ hy h1
      have hfree' : ∀ k ok, ops[k]? = some ok → k ≠ i → (listed.setIfInBounds j true).getD k true = false →
          (∀ e ∈ ok.after, Region.binds md e = true → e.on ≠ i) → oi.apart ops ok = true := fun k ok hk hki hun hno => by
        refine hfree k ok hk hki ?_ hno
        by_cases hjk : j = k
        · subst hjk; exact hjun
        · rw [getD_set_ne true hjk] at hun; exact hun
      have hun' : ∀ c ∈ cs, (listed.setIfInBounds j true).getD c true = false := fun c hc => by
        rw [getD_set_ne true (fun e : j = c => hnj (by rw [e]; exact hc))]; exact hun c hc
      refine wpOp_mono (fun a' w' h3 => ⟨h3.2.1, ih (listed.setIfInBounds j true) a' w' hun' hfree' (ready_mono hr (Ne.symm hji)) h3.1 (h3.2.1.resolve_left hjz) ?_⟩) h2
      rw [Array.setIfInBounds_comm _ _ hji]
      exact h3.2.2
/-- take number i first: z waits for it, by cs -/
theorem e_take {L : List Oper} {i : Nat} {oi : Oper} {r : List Oper} (cs : List Nat) (hL : L.drop i = oi :: r) {v : Value} {fuel : Nat} {listed : Array Bool} {a : Act} {w : World}
    (hz : (cs.contains z && waitsB md L.toArray i cs && cs.all (fun c => !listed.getD c true)) = true)
    (hs : Region.noSelect L.toArray = true) (hf : Region.free md L.toArray listed i = true) (hr : (Region.ready md L.toArray listed).contains i = true)
    (hQ : ∀ c a w, Q (.panic c) (a.put oi.dst v) w → Q (.panic c) a w) (hw : Region.wanted oi (yielded L.toArray a.tmps) = true) (hy : ∀ w, S w → (execOp a.eval oi).run P w = .ok (.value v) w) (hS : S w)
    (h : anyE P md L.toArray Q S z fuel (listed.setIfInBounds i true) (a.put oi.dst v) w) : anyE P md L.toArray Q S z (fuel + 1) listed a w := by
  simp only [Bool.and_eq_true, List.contains_iff_mem, List.all_eq_true, Bool.not_eq_true'] at hz
  exact anyE_first cs hz.1.1 hz.1.2 (drop_at hL) (Region.noSelect_spec hs) hQ fuel listed a w hz.2 (Region.free_spec (drop_at hL) hf) (by simpa using hr) (.inl ⟨hw, hy⟩) hS h
theorem e_step {L : List Oper} {i : Nat} {o : Oper} {r : List Oper} (hL : L.drop i = o :: r) {fuel : Nat} {listed : Array Bool} {a : Act} {w : World}
    (h : ∀ K' : Act → World → Prop, Shut (∀ a w, (i = z ∨ S w) → (S w → anyE P md L.toArray Q S z fuel (listed.setIfInBounds i true) a w) → (i = z → anyE P md L.toArray Q S z fuel (listed.setIfInBounds i true) a w) → K' a w) → if Region.wanted o (yielded L.toArray a.tmps) = true then Oper.wp P o a w K' Q else K' (a.put o.dst undef) w) :
    wpOp P L.toArray Q i (fun a' w' => (i = z ∨ S w') ∧ anyE P md L.toArray Q S z fuel (listed.setIfInBounds i true) a' w') a w :=
  wpOp_step (drop_at hL) (fun K' hK => h K' (fun a w hS h1 h2 => hK a w ⟨hS, hS.elim h2 h1⟩))
/-- number i is all that may come up -/
theorem e_one {L : List Oper} {i : Nat} {o : Oper} {r : List Oper} (hL : L.drop i = o :: r) {fuel : Nat} {listed : Array Bool} {a : Act} {w : World} (hr : Region.ready md L.toArray listed = [i])
    (h : ∀ K' : Act → World → Prop, Shut (∀ a w, S w → (S w → anyE P md L.toArray Q S z fuel (listed.setIfInBounds i true) a w) → K' a w) → if Region.wanted o (yielded L.toArray a.tmps) = true then Oper.wp P o a w K' Q else K' (a.put o.dst undef) w) :
    anyE P md L.toArray Q S z (fuel + 1) listed a w :=
  ⟨fun h0 => absurd (hr.symm.trans h0) (by simp), by
    rw [hr]
    intro j hj
    rw [List.mem_singleton.1 hj]
    exact wpOp_step (drop_at hL) (fun K' hK => h K' (fun a w hS h1 => hK a w ⟨.inr hS, h1 hS⟩))⟩
/-- number z is all that may come up -/
theorem e_last {L : List Oper} {o : Oper} {r : List Oper} (hL : L.drop z = o :: r) {fuel : Nat} {listed : Array Bool} {a : Act} {w : World} (hr : Region.ready md L.toArray listed = [z])
    (h : ∀ K' : Act → World → Prop, Shut (∀ a w, anyE P md L.toArray Q S z fuel (listed.setIfInBounds z true) a w → K' a w) → if Region.wanted o (yielded L.toArray a.tmps) = true then Oper.wp P o a w K' Q else K' (a.put o.dst undef) w) :
    anyE P md L.toArray Q S z (fuel + 1) listed a w :=
  ⟨fun h0 => absurd (hr.symm.trans h0) (by simp), by
    rw [hr]
    intro j hj
    rw [List.mem_singleton.1 hj]
    exact wpOp_step (drop_at hL) (fun K' hK => h K' (fun a w h1 => hK a w ⟨.inl rfl, h1⟩))⟩
/-- two may come up -/
theorem e_two {L : List Oper} {i j : Nat} {oi oj : Oper} {ri rj : List Oper} (hi : L.drop i = oi :: ri) (hj : L.drop j = oj :: rj) {fuel : Nat} {listed : Array Bool} {a : Act} {w : World} (hr : Region.ready md L.toArray listed = [i, j])
    (h1 : ∀ K' : Act → World → Prop, Shut (∀ a w, S w → (S w → anyE P md L.toArray Q S z fuel (listed.setIfInBounds i true) a w) → K' a w) → if Region.wanted oi (yielded L.toArray a.tmps) = true then Oper.wp P oi a w K' Q else K' (a.put oi.dst undef) w)
    (h2 : ∀ K' : Act → World → Prop, Shut (∀ a w, S w → (S w → anyE P md L.toArray Q S z fuel (listed.setIfInBounds j true) a w) → K' a w) → if Region.wanted oj (yielded L.toArray a.tmps) = true then Oper.wp P oj a w K' Q else K' (a.put oj.dst undef) w) :
    anyE P md L.toArray Q S z (fuel + 1) listed a w :=
  ⟨fun h0 => absurd (hr.symm.trans h0) (by simp), by
    rw [hr]
    intro k hk
    rcases List.mem_cons.1 hk with rfl | hk
    · exact wpOp_step (drop_at hi) (fun K' hK => h1 K' (fun a w hS h1 => hK a w ⟨.inr hS, h1 hS⟩))
    · rw [List.mem_singleton.1 hk]
      exact wpOp_step (drop_at hj) (fun K' hK => h2 K' (fun a w hS h1 => hK a w ⟨.inr hS, h1 hS⟩))⟩
theorem e_done {ops : Array Oper} {listed : Array Bool} {a : Act} {w : World} (hr : Region.ready md ops listed = []) (h : Q .normal a w) : ∀ fuel, anyE P md ops Q S z fuel listed a w
  | 0 => ⟨hr, h⟩
  | _ + 1 => ⟨fun _ => h, by rw [hr]; simp⟩
theorem e_begin {ops : Array Oper} {id : Nat} {a : Act} {w : World} (z : Nat) (hm : P.follows .mixedOrders = true) (hS : S w.drew)
    (h : S w.drew → anyE P .any ops Q S z ops.size (Array.replicate ops.size false) a w.drew) : (Code.region id ops true).wp P Q a w :=
  wp_region_any hm (any_of_e _ _ _ _ (h hS))
end Go.Proofs.Ytfcaaljehhibgaa
