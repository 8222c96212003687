/- What a command changes of keys and fences (no Go). -/
import Derived.Test.YtlopkfenbeahgaaXRv15
namespace Go.Proofs.Ytlopkfenbeahgaa
open Go.RowKit Go.Shelf
set_option linter.unusedVariables false
set_option linter.unusedSimpArgs false

abbrev kAt (m : Rs) (n : Nat) : Int := m.ks.getD n 0
abbrev fAt (m : Rs) (n : Nat) : Bool := m.f.getD n false
/-- of each nexus: nothing, or its key was taken away -/
def Tk (m m' : Rs) : Prop := ∀ n, (kAt m' n = kAt m n ∧ fAt m' n = fAt m n) ∨ (kAt m n ≠ 0 ∧ kAt m' n = 0 ∧ fAt m' n = true)
/-- or it has one now -/
def Chg (m m' : Rs) : Prop := ∀ n, (kAt m' n = kAt m n ∧ fAt m' n = fAt m n) ∨ (kAt m n ≠ 0 ∧ kAt m' n = 0 ∧ fAt m' n = true) ∨ (kAt m' n ≠ 0 ∧ fAt m' n = false)
theorem Tk.refl (m : Rs) : Tk m m := fun n => .inl ⟨rfl, rfl⟩
theorem Tk.chg {m m' : Rs} (h : Tk m m') : Chg m m' := fun n => (h n).imp id .inl
theorem Tk.same {m m' m'' : Rs} (h : Tk m m') (hk : m''.ks = m'.ks) (hf : m''.f = m'.f) : Tk m m'' := fun n => by
  have := h n
  unfold kAt fAt at *
  rw [hk, hf]; exact this
theorem Chg.same {m m' m'' : Rs} (h : Chg m m') (hk : m''.ks = m'.ks) (hf : m''.f = m'.f) : Chg m m'' := fun n => by
  have := h n
  unfold kAt fAt at *
  rw [hk, hf]; exact this
theorem getB_set (l : List Bool) (i : Nat) (x : Bool) (j : Nat) : (l.set i x).getD j false = if i = j ∧ i < l.length then x else l.getD j false := by
  rw [List.getD, List.getD, List.getElem?_set]
  by_cases h : i = j
  · subst h
    by_cases h2 : i < l.length
    · simp [h2]
    · simp [h2, List.getElem?_eq_none (Nat.le_of_not_lt h2)]
  · simp [h]
theorem set_k (m : Rs) (i : Nat) (x : Int) (b : Bool) (n : Nat) (hi : i < m.ks.length) : kAt { m with ks := m.ks.set i x, f := m.f.set i b } n = if i = n then x else kAt m n := by
  show (m.ks.set i x).getD n 0 = _
  rw [getD_set]
  by_cases h : i = n
  · rw [if_pos ⟨h, hi⟩, if_pos h]
  · rw [if_neg (fun k => h k.1), if_neg h]
theorem set_f (m : Rs) (i : Nat) (x : Int) (b : Bool) (n : Nat) (hi : i < m.f.length) : fAt { m with ks := m.ks.set i x, f := m.f.set i b } n = if i = n then b else fAt m n := by
  show (m.f.set i b).getD n false = _
  rw [getB_set]
  by_cases h : i = n
  · rw [if_pos ⟨h, hi⟩, if_pos h]
  · rw [if_neg (fun k => h k.1), if_neg h]
theorem lt_of_k {m : Rs} {i : Nat} (h : kAt m i ≠ 0) : i < m.ks.length := by
  rcases Nat.lt_or_ge i m.ks.length with h1 | h1
  · exact h1
  · exact absurd (by unfold kAt; rw [List.getD, List.getElem?_eq_none h1]; rfl) h
theorem Tk.away {m s : Rs} (h : Tk m s) (hs : s.Wf) (i : Nat) (hi : i < 16) (hk : kAt m i ≠ 0) : Tk m (away s i) := fun n => by
  have h1 := set_k s i 0 true n (by rw [hs.kl]; exact hi)
  have h2 := set_f s i 0 true n (by rw [hs.fl]; exact hi)
  by_cases e : i = n
  · subst e
    rw [if_pos rfl] at h1 h2
    exact .inr ⟨hk, h1, h2⟩
  · rw [if_neg e] at h1 h2
    rcases h n with ⟨a, b⟩ | ⟨a, b, c⟩
    · exact .inl ⟨h1.trans a, h2.trans b⟩
    · exact .inr ⟨a, h1.trans b, h2.trans c⟩
theorem regsL_k {ks : List Int} {k : Nat} {r : Nat × Int} (h : r ∈ regsL ks k) : r.1 < k ∧ ks.getD r.1 0 ≠ 0 ∧ r.2 = ks.getD r.1 0 := by
  unfold regsL at h
  obtain ⟨i, hi, rfl⟩ := List.mem_map.1 h
  obtain ⟨h1, h2⟩ := List.mem_filter.1 hi
  exact ⟨List.mem_range.1 h1, by rw [bne_iff_ne] at h2; exact h2, rfl⟩
theorem awF_tk (m : Rs) (hm : m.Wf) (rs : List (Nat × Int)) (h : ∀ r ∈ rs, r.1 < 16 ∧ kAt m r.1 ≠ 0) : Tk m (awF m rs) := by
  have : ∀ (rs : List (Nat × Int)) (s : Rs), s.Wf → Tk m s → (∀ r ∈ rs, r.1 < 16 ∧ kAt m r.1 ≠ 0) → Tk m (rs.foldl (fun m r => away m r.1) s) := by
    intro rs
    induction rs with
    | nil => exact fun s _ t _ => t
    | cons r rs ih => exact fun s hs t h => ih _ (away_wf hs _) (t.away hs r.1 (h r (by simp)).1 (h r (by simp)).2) (fun r' hr' => h r' (List.mem_cons_of_mem _ hr'))
  exact this rs m hm (Tk.refl m) h
theorem tkF_tk (nx key : Int) (m : Rs) (l : List Int) (hm : m.Wf) (rs : List (Nat × Int)) (h : ∀ r ∈ rs, r.1 < 16 ∧ kAt m r.1 ≠ 0) : Tk m (tkF nx key (m, l) rs).1 := by
  have : ∀ (rs : List (Nat × Int)) (s : Rs × List Int), s.1.Wf → Tk m s.1 → (∀ r ∈ rs, r.1 < 16 ∧ kAt m r.1 ≠ 0) → Tk m (tkF nx key s rs).1 := by
    intro rs
    induction rs with
    | nil => exact fun s _ t _ => t
    | cons r rs ih =>
      intro s hs t h
      show Tk m (rs.foldl _ (if tkB nx key r = true then (away s.1 r.1, s.2.set r.1 5) else s)).1
      split
      · exact ih (away s.1 r.1, s.2.set r.1 5) (away_wf hs _) (t.away hs r.1 (h r (by simp)).1 (h r (by simp)).2) (fun r' hr' => h r' (List.mem_cons_of_mem _ hr'))
      · exact ih s hs t (fun r' hr' => h r' (List.mem_cons_of_mem _ hr'))
  exact this rs (m, l) hm (Tk.refl m) h
theorem regs_ok (m : Rs) : ∀ r ∈ regsL m.ks 16, r.1 < 16 ∧ kAt m r.1 ≠ 0 := fun r hr => ⟨(regsL_k hr).1, (regsL_k hr).2.1⟩
theorem leave_tk (m : Rs) (hm : m.Wf) (i : Nat) (hi : i < 16) : Tk m (leaveM m i).1 := by
  unfold leaveM
  split
  · next h =>
    have hk : kAt m i ≠ 0 := by unfold rg at h; rw [bne_iff_ne] at h; exact h
    have t := (Tk.refl m).away hm i hi hk
    split
    · exact t.same rfl rfl
    · exact t.same rfl rfl
  · exact Tk.refl m
theorem ign_chg (m : Rs) (hm : m.Wf) (i : Nat) (hi : i < 16) (nw : Int) : Chg m (ignM m i nw).1 := by
  unfold ignM
  split
  · exact (leave_tk m hm i hi).chg
  · next hx =>
    refine Chg.same (m' := give m i nw) (fun n => ?_) rfl rfl
    have h1 := set_k m i nw false n (by rw [hm.kl]; exact hi)
    have h2 := set_f m i nw false n (by rw [hm.fl]; exact hi)
    by_cases e : i = n
    · subst e
      rw [if_pos rfl] at h1 h2
      exact .inr (.inr ⟨by rw [show kAt (give m i nw) i = nw from h1]; exact hx, h2⟩)
    · rw [if_neg e] at h1 h2
      exact .inl ⟨h1, h2⟩
theorem reg_chg (m : Rs) (hm : m.Wf) (i : Nat) (hi : i < 16) (c : Cm) : Chg m (regM m i c).2.1 := by
  unfold regM
  split
  · exact ign_chg m hm i hi c.nw
  · exact (Tk.refl m).chg
theorem rsv_chg (m : Rs) (i : Nat) (c : Cm) : Chg m (rsvM m i c).2.1 := by
  unfold rsvM
  split
  · exact (Tk.refl m).chg
  · split
    · exact ((Tk.refl m).same rfl rfl).chg
    · split <;> exact (Tk.refl m).chg
theorem rel_chg (m : Rs) (i : Nat) (c : Cm) : Chg m (relM m i c).2.1 := by
  unfold relM
  split
  · exact (Tk.refl m).chg
  · split
    · exact (Tk.refl m).chg
    · exact ((Tk.refl m).same rfl rfl).chg
theorem clr_chg (m : Rs) (hm : m.Wf) (i : Nat) : Chg m (clrM m i).2.1 := ((awF_tk m hm _ (regs_ok m)).same rfl rfl).chg
theorem pre_chg (m : Rs) (hm : m.Wf) (i : Nat) (c : Cm) : Chg m (preM m i c).2.1 := by
  unfold preM
  split
  · exact (Tk.refl m).chg
  · split
    · exact ((tkF_tk _ _ m z16 hm _ (regs_ok m)).same rfl rfl).chg
    · split
      · exact (Tk.refl m).chg
      · split
        · exact (Tk.refl m).chg
        · exact ((tkF_tk _ _ m z16 hm _ (regs_ok m)).same rfl rfl).chg
/-- who had a key, and has it no more, is fenced off; nobody else -/
structure FI (m : Rs) (had : List Bool) : Prop where
  len : had.length = 16
  has : ∀ n, n < 16 → kAt m n ≠ 0 → fAt m n = false
  lost : ∀ n, n < 16 → had.getD n false = true → kAt m n = 0 → fAt m n = true
  never : ∀ n, n < 16 → had.getD n false = false → kAt m n = 0 ∧ fAt m n = false
end Go.Proofs.Ytlopkfenbeahgaa

