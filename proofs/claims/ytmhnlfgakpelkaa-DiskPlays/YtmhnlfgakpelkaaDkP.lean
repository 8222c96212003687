/- Behind a crash each sector is as it was safe, or as some group had it: no Go; lists of bytes in memory. -/
import Derived.Test.YtmhnlfgakpelkaaDkW13
namespace Go.Proofs.Ytmhnlfgakpelkaa
open Go.RowKit
set_option linter.unusedVariables false

/-- a sector of an image -/
def sec (L : List (BitVec 8)) (n : Nat) : List (BitVec 8) := (L.drop (n * 256)).take 256
theorem sec_ext {A B : List (BitVec 8)} {n : Nat} (h : ∀ j, j < 256 → A[n * 256 + j]? = B[n * 256 + j]?) : sec A n = sec B n := by
  unfold sec
  apply List.ext_getElem?
  intro j
  rw [List.getElem?_take, List.getElem?_take]
  split
  · rename_i hj
    rw [List.getElem?_drop, List.getElem?_drop]; exact h j hj
  · rfl
set_option maxRecDepth 4000 in
theorem keep_sec {im : List (BitVec 8)} {g : Nat × List (BitVec 8)} (h : Fits im.length g) (kk : Int) (n : Nat) (L : List (BitVec 8)) (hL : Fits L.length g) : sec (keepG im g kk) n = sec im n ∨ sec (keepG im g kk) n = sec (layG L g) n := by
  by_cases c : g.1 ≤ n ∧ n < g.1 + secs g.2.length ∧ bitOf kk (n - g.1) = true
  · refine .inr (sec_ext fun j hj => ?_)
    have e : (n * 256 + j - g.1 * 256) / 256 = n - g.1 := by omega
    have c1 : g.1 * 256 ≤ n * 256 + j := by omega
    have c2 : n * 256 + j < (g.1 + secs g.2.length) * 256 := by
      have : (n + 1) * 256 ≤ (g.1 + secs g.2.length) * 256 := Nat.mul_le_mul_right _ (by omega)
      omega
    rw [keepG_at h, layG_at hL, if_pos ⟨c1, c2, by rw [e]; exact c.2.2⟩, if_pos ⟨c1, c2⟩]
  · refine .inl (sec_ext fun j hj => ?_)
    rw [keepG_at h, if_neg]
    rintro ⟨h1, h2, h3⟩
    have e : (n * 256 + j - g.1 * 256) / 256 = n - g.1 := by omega
    rw [e] at h3
    have c2 : n < g.1 + secs g.2.length := by
      rcases Nat.lt_or_ge n (g.1 + secs g.2.length) with hh | hh
      · exact hh
      · have : (g.1 + secs g.2.length) * 256 ≤ n * 256 := Nat.mul_le_mul_right _ hh
        omega
    exact c ⟨by omega, c2, h3⟩
theorem crash_sec {safe : List (BitVec 8)} {gs : List (Nat × List (BitVec 8))} (h : ∀ g ∈ gs, Fits safe.length g) (kl : List Int) (n : Nat) : ∃ j, j ≤ gs.length ∧ sec (crashed safe gs kl) n = sec (nowOf safe (gs.take j)) n := by
  suffices ∀ i, i ≤ gs.length → ∃ j, j ≤ i ∧ sec (crashTo safe gs kl i) n = sec (nowOf safe (gs.take j)) n by exact this _ (Nat.le_refl _)
  intro i hi
  induction i with
  | zero => exact ⟨0, Nat.le_refl _, rfl⟩
  | succ i ih =>
    obtain ⟨j, hj, e⟩ := ih (by omega)
    have hm : gs[i]'(by omega) ∈ gs := List.getElem_mem _
    have hl := crashTo_length h kl i (by omega)
    have hn : (nowOf safe (gs.take i)).length = safe.length := nowOf_length (fun y hy => h y (List.mem_of_mem_take hy))
    have e1 : crashTo safe gs kl (i + 1) = keepG (crashTo safe gs kl i) (gs[i]'(by omega)) (kl.getD i 0) := by
      rw [crashTo, List.getD, List.getElem?_eq_getElem (by omega)]; rfl
    have e2 : nowOf safe (gs.take (i + 1)) = layG (nowOf safe (gs.take i)) (gs[i]'(by omega)) := by rw [List.take_succ_eq_append_getElem (by omega), nowOf_snoc]
    rcases keep_sec (im := crashTo safe gs kl i) (g := gs[i]'(by omega)) (by rw [hl]; exact h _ hm) (kl.getD i 0) n (nowOf safe (gs.take i)) (by rw [hn]; exact h _ hm) with e' | e'
    · exact ⟨j, by omega, by rw [e1, e', e]⟩
    · exact ⟨i + 1, Nat.le_refl _, by rw [e1, e', e2]⟩

/-- slices of bytes as cells -/
def SsAt (V : List Nat) (w : World) : List (List (BitVec 8)) → List Value → Prop
  | [], [] => True
  | l :: ls, u :: vs => (∃ a cap, u = .slice a l.length cap ∧ l.length ≤ cap ∧ Row w a l ∧ (∀ y, a = some y → y.block ∈ V ∧ y.spot = none)) ∧ SsAt V w ls vs
  | _, _ => False
theorem SsAt.get {V : List Nat} {w : World} {ls : List (List (BitVec 8))} {vs : List Value} (h : SsAt V w ls vs) (i : Nat) (hi : i < ls.length) :
    ∃ a cap, vs[i]? = some (.slice a ls[i].length cap) ∧ ls[i].length ≤ cap ∧ Row w a ls[i] := by
  induction ls generalizing vs i with
  | nil => simp at hi
  | cons l ls ih =>
    match vs, h with
    | u :: vs, ⟨⟨a, cap, h2, h3, h4, h5⟩, h6⟩ =>
      cases i with
      | zero => subst h2; exact ⟨a, cap, rfl, h3, h4⟩
      | succ i =>
        obtain ⟨a, cap, k1, k2, k3⟩ := ih h6 i (by simpa using hi)
        exact ⟨a, cap, by simpa using k1, k2, k3⟩
theorem SsAt.snoc {V : List Nat} {w : World} {ls : List (List (BitVec 8))} {vs : List Value} (h : SsAt V w ls vs) (l : List (BitVec 8)) (a : Option Addr) (cap : Nat) (h1 : l.length ≤ cap) (h2 : Row w a l) (h3 : ∀ y, a = some y → y.block ∈ V ∧ y.spot = none) :
    SsAt V w (ls ++ [l]) (vs ++ [.slice a l.length cap]) := by
  induction ls generalizing vs with
  | nil => match vs, h with | [], _ => exact ⟨⟨a, cap, rfl, h1, h2, h3⟩, trivial⟩
  | cons l' ls ih => match vs, h with | u :: vs, ⟨k1, k3⟩ => exact ⟨k1, ih k3⟩
theorem SsAt.same {V V' : List Nat} {w w' : World} {ls : List (List (BitVec 8))} {vs : List Value} (h : SsAt V w ls vs) (hb : ∀ k ∈ V, w'.heap[k]? = w.heap[k]?) (hV : ∀ k ∈ V, k ∈ V') : SsAt V' w' ls vs := by
  induction ls generalizing vs with
  | nil => match vs, h with | [], _ => trivial
  | cons l ls ih =>
    match vs, h with
    | u :: vs, ⟨⟨a, cap, h2, h3, h4, h5⟩, k3⟩ => exact ⟨⟨a, cap, h2, h3, h4.same (fun y hy => hb _ (h5 y hy).1), fun y hy => ⟨hV _ (h5 y hy).1, (h5 y hy).2⟩⟩, ih k3⟩
/-- a slice of slices of bytes -/
def stOb (v : Value) (V : List Nat) (ls : List (List (BitVec 8))) : Ob := ⟨v.ownBlock.toList, V, fun w => ∃ vs, w.ownsRow 0 22 1 v ls.length vs ∧ SsAt V w ls vs⟩
theorem stOb_ok {v : Value} {V : List Nat} {ls : List (List (BitVec 8))} {w : World} {vs : List Value} (h1 : w.ownsRow 0 22 1 v ls.length vs) (h2 : SsAt V w ls vs) (hl : ∀ k ∈ V, k < w.heap.size) (ha : ∀ k, v.ownBlock = some k → k ∉ V) : (stOb v V ls).Ok w := by
  refine ⟨⟨vs, h1, h2⟩, fun k hk => ?_, fun k hk hv => ha k (by simpa [stOb] using hk) hv, fun w1 w2 hs h => ?_⟩
  · rcases hk with hk | hk
    · exact (World.ownsRow.lt h1 k (by simpa [stOb] using hk)).2
    · exact hl k hk
  · obtain ⟨vs, h1, h2⟩ := h
    exact ⟨vs, ownsRow_same h1 (fun k hk => hs k (.inl (by simp [stOb, hk]))), h2.same (fun k hk => hs k (.inr hk)) (fun k hk => hk)⟩
theorem info_bytes : (Try.prog.info? 22).map (fun i => (i.zero, i.size, i.bytes)) = some (some (.slice none 0 0), 1, 24) := by kernel_rfl

/-- append(states, b) -/
theorem wpList_append_state (w : World) {ops : Array Oper} {rest : List Oper} {o : Oper} {a : Act} {Q : Exit → Act → World → Prop} (hg : o.guard = none) (s x : Operand)
    (ho : o.op = .call { callee := .builtin .append, args := #[s, x], argTypes := #[36, 36] }) (v : Value) (V : List Nat) (ls : List (List (BitVec 8))) (hs : a.eval s = v) (u0 : World) (hok0 : (stOb v V ls).Ok u0) (hb0 : Below u0.heap.size u0 w) (hls : ls.length ≤ 1000000)
    (gx : Nat) (hx : a.eval x = .slice (some ⟨gx, 0, none⟩) 1 1) (base kb cb : Nat) (l : List (BitVec 8)) (hB : Blk w gx 22 [.slice (some ⟨kb, 0, none⟩) l.length cb]) (hO : Own w base (.slice (some ⟨kb, 0, none⟩) l.length cb) l) (hkb : u0.heap.size ≤ kb)
    (next : ∀ (v' : Value) (w' : World), Step u0 w' (stOb v V ls) (stOb v' (kb :: V) (ls ++ [l])) → w.grownBy w' v.ownBlock → wpList Try.prog ops Q rest (a.put o.dst v') w') : wpList Try.prog ops Q (o :: rest) a w := by
  obtain ⟨i0, hi, hz0, hz1, hz2⟩ := info_parts info_bytes
  have hok := hok0.later hb0
  obtain ⟨vs, h1, h2⟩ := hok.holds
  refine wpList_append_own_at (w := w) hg s x 36 ho 0 22 i0 (.slice none 0 0) 1 24 Try.underlying36 hi hz0 hz1 hz2 rfl (by decide) v ls.length vs hs h1 ⟨gx, 0, none⟩ 1 1 [.slice (some ⟨kb, 0, none⟩) l.length cb] hx rfl ?_ (by simp [Value.oneCell']) (by unfold maxLen; omega) (by omega) (Nat.zero_le _) ?_
  · intro j y hj
    match j, hj with
    | 0, hj => simp at hj; subst hj; simpa [Addr.add] using hB.cell (by simp [maxLen]) 0 (by simp)
  · intro v' w' ho' hg' _ hat
    refine next v' w' ?_ hg'
    have hlt0 := hok0.lt
    have hlt := hok.lt
    have hap := hok.apart
    have hbl : ∀ k, v'.ownBlock = some k → v.ownBlock = some k ∨ k = w.heap.size := by
      intro k hk
      rcases hat with e | e
      · rw [e] at hk; exact .inl hk
      · rw [e] at hk; exact .inr (by simpa using hk.symm)
    have hsz := hg'.size
    have hsz0 := hb0.size
    have hkw : kb < w.heap.size := (World.ownsRow.lt hO kb rfl).2
    have hkb' : v.ownBlock ≠ some kb := fun e => by have := hlt0 kb (.inl (by simp [stOb, e])); omega
    have hVs : ∀ k ∈ V, w'.heap[k]? = w.heap[k]? := fun k hk => hg'.block k (hlt k (.inr hk)) (fun e => hap k (by simp [stOb, ← e]) hk)
    have hOk : Row w (some ⟨kb, 0, none⟩) l := by
      obtain ⟨a1, cap1, hv1, _, _, hr1, _, _⟩ := hO.open
      simp only [Value.slice.injEq] at hv1
      rw [hv1.1]; exact hr1
    have hcb : l.length ≤ cb := by
      obtain ⟨a1, cap1, hv1, hle1, _, _, _, _⟩ := hO.open
      simp only [Value.slice.injEq] at hv1
      omega
    refine ⟨((turned_below hb0).mono (fun _ h => h.elim)).trans (turned_grown hg' (fun k hk => .inl (by simp [stOb, hk]))), stOb_ok (vs := vs ++ [.slice (some ⟨kb, 0, none⟩) l.length cb]) (by rw [List.length_append, List.length_singleton]; exact ho') ?_ ?_ ?_, ?_, ?_⟩
    · refine (h2.same hVs (fun k hk => List.mem_cons_of_mem _ hk)).snoc l _ cb hcb (hOk.same (fun y hy => ?_)) (fun y hy => by cases hy; exact ⟨List.mem_cons_self .., rfl⟩)
      cases hy
      exact hg'.block kb hkw (fun e => hkb' e.symm)
    · intro k hk
      rcases List.mem_cons.1 hk with rfl | hk
      · omega
      · have := hlt k (.inr hk); omega
    · intro k hk hv
      rcases hbl k hk with e | e
      · rcases List.mem_cons.1 hv with rfl | hv
        · exact hkb' e
        · exact hap k (by simp [stOb, e]) hv
      · rcases List.mem_cons.1 hv with rfl | hv
        · omega
        · have := hlt k (.inr hv); omega
    · intro k hk
      rcases hbl k (by simpa [stOb] using hk) with e | e
      · exact .inl (by simp [stOb, e])
      · exact .inr (by omega)
    · intro k hk
      rcases List.mem_cons.1 (show k ∈ kb :: V from hk) with rfl | hk
      · exact .inr (.inr hkb)
      · exact .inr (.inl hk)
end Go.Proofs.Ytmhnlfgakpelkaa
