/- An answer is kept, and the least one goes if there are too many. -/
import Derived.Test.YtkcbbaanlkpeiaaXDd21
namespace Go.Proofs.Ytkcbbaanlkpeiaa
open Go.RowKit
set_option linter.unusedVariables false
set_option linter.unusedSimpArgs false
set_option maxRecDepth 4000

/-- an answer more, where its number stands -/
def insA (l : List An) (x : An) : List An := l.filter (fun a => decide (a.2.1 < x.2.1)) ++ x :: l.filter (fun a => !decide (a.2.1 < x.2.1))
theorem slot_ins {l : List An} {x : An} {i : Nat} (h : SlotIs l x.2.1 i) : l.take i ++ x :: l.drop i = insA l x := by
  have h1 : ∀ a ∈ l.take i, decide (a.2.1 < x.2.1) = true := fun a ha => by
    obtain ⟨k, hk, rfl⟩ := List.getElem_of_mem ha
    rw [List.length_take] at hk
    rw [List.getElem_take]
    simpa using h.lo k (by omega) (by omega)
  have h2 : ∀ a ∈ l.drop i, decide (a.2.1 < x.2.1) = false := fun a ha => by
    obtain ⟨k, hk, rfl⟩ := List.getElem_of_mem ha
    rw [List.length_drop] at hk
    rw [List.getElem_drop]
    have := h.hi (i + k) (by omega) (by omega)
    simp; omega
  unfold insA
  conv => rhs; rw [← List.take_append_drop i l]
  rw [List.filter_append, List.filter_append, List.filter_eq_self.2 h1, List.filter_eq_nil_iff.2 (fun a ha => by rw [h2 a ha]; simp), List.filter_eq_nil_iff.2 (fun a ha => by rw [h1 a ha]; simp), List.filter_eq_self.2 (fun a ha => by rw [h2 a ha]; rfl)]
  simp
theorem filt_len (p : An → Bool) (l : List An) : (l.filter p).length + (l.filter (fun a => !p a)).length = l.length := by
  induction l with
  | nil => rfl
  | cons z l ih =>
    rw [List.filter_cons, List.filter_cons]
    cases h : p z <;> simp <;> omega
theorem insA_len (l : List An) (x : An) : (insA l x).length = l.length + 1 := by
  unfold insA
  rw [List.length_append, List.length_cons]
  have := filt_len (fun a => decide (a.2.1 < x.2.1)) l
  omega
theorem mem_insA {l : List An} {x a : An} : a ∈ insA l x ↔ a = x ∨ a ∈ l := by
  unfold insA
  simp only [List.mem_append, List.mem_cons, List.mem_filter, Bool.not_eq_true', decide_eq_true_eq, decide_eq_false_iff_not]
  constructor
  · rintro (⟨h, -⟩ | h | ⟨h, -⟩)
    · exact .inr h
    · exact .inl h
    · exact .inr h
  · rintro (h | h)
    · exact .inr (.inl h)
    · by_cases k : a.2.1 < x.2.1
      · exact .inl ⟨h, k⟩
      · exact .inr (.inr ⟨h, k⟩)
theorem rise_insA {l : List An} {x : An} (h : Rise l) (hn : ∀ a ∈ l, a.2.1 ≠ x.2.1) : Rise (insA l x) := by
  unfold Rise insA at *
  rw [List.pairwise_append, List.pairwise_cons]
  refine ⟨h.filter _, ⟨fun a ha => ?_, h.filter _⟩, fun a ha b hb => ?_⟩
  · simp only [List.mem_filter, Bool.not_eq_true', decide_eq_false_iff_not] at ha
    have := hn a ha.1; omega
  · simp only [List.mem_filter, decide_eq_true_eq] at ha
    rcases List.mem_cons.1 hb with rfl | hb
    · exact ha.2
    · simp only [List.mem_filter, Bool.not_eq_true', decide_eq_false_iff_not] at hb
      omega
theorem slot_of_rise {l : List An} (h : Rise l) (n : Int) : SlotIs l n (l.filter (fun a => decide (a.2.1 < n))).length := by
  induction l with
  | nil => exact ⟨by simp, by simp, by simp⟩
  | cons z l ih =>
    have hz := List.pairwise_cons.1 h
    have I := ih hz.2
    rw [List.filter_cons]
    by_cases k : z.2.1 < n
    · simp only [k, decide_true, if_true, List.length_cons]
      refine ⟨by have := I.le; simp; omega, fun j hj hji => ?_, fun j hj hji => ?_⟩
      · cases j with
        | zero => exact k
        | succ j => simp only [List.getElem_cons_succ]; exact I.lo j (by simpa using hj) (by omega)
      · cases j with
        | zero => omega
        | succ j => simp only [List.getElem_cons_succ]; exact I.hi j (by simpa using hj) (by omega)
    · have e : l.filter (fun a => decide (a.2.1 < n)) = [] := List.filter_eq_nil_iff.2 (fun a ha => by have := hz.1 a ha; simp; omega)
      simp only [k, decide_false, e, List.length_nil]
      refine ⟨by simp, fun j hj hji => by simp at hji, fun j hj hji => ?_⟩
      cases j with
      | zero => simpa using k
      | succ j =>
        simp only [List.getElem_cons_succ]
        have := hz.1 _ (List.getElem_mem (show j < l.length by simpa using hj))
        omega
/-- what is kept of a nexus behind one answer more -/
def mput (m : Int × List An) (x : An) : Int × List An := if 64 < (insA m.2 x).length then (((insA m.2 x).headD (0, 0, ByteArray.mk #[])).2.1, (insA m.2 x).tail) else (m.1, insA m.2 x)
theorem set_same12 {cs : List Value} {o : Nat} {v u : Value} (h : cs[o]? = some u) : (cs.set (o + 1) v).set o u = cs.set (o + 1) v := by
  apply List.ext_getElem?
  intro j
  rw [List.getElem?_set, List.getElem?_set]
  by_cases e : o = j
  · subst e
    have hl : o < cs.length := by
      rcases Nat.lt_or_ge o cs.length with q | q
      · exact q
      · rw [List.getElem?_eq_none q] at h; cases h
    simp [hl]
    rw [List.getElem?_eq_getElem hl] at h
    injection h with h
    exact h.symm
  · simp [e]
set_option maxHeartbeats 4000000 in
theorem ddkeep_any (g o TG : Nat) (cs : List Value) (v : Value) (fl : Int) (l : List An) (a b : Int) (s : ByteArray) (w : World) (hG : Blk w g TG cs) (hcf : cs[o]? = some (.int .i64 fl)) (hco : cs[o + 1]? = some v) (hT : TG ≠ 90)
    (ho : AOwn w v l) (hr : Rise l) (hl : l.length ≤ 999) :
    Calls Try.prog 44 #[.pointer (some ⟨g, o, none⟩), .agg #[.int .i64 a, .int .i64 b, .string s]] w fun e w' => e = .returned (.tuple #[]) ∧ ∃ v', PG g TG ((cs.set (o + 1) v').set o (.int .i64 (mput (fl, l) (a, b, s)).1)) w v (mput (fl, l) (a, b, s)).2 w' v' := by
  have b0 : Below w.heap.size w (w.alloc (.cells #[.int .i64 a, .int .i64 b, .string s] 90)) := (Below.refl _ _).alloc (Nat.le_refl _) _
  have A0 := Blk.new' w 90 [.int .i64 a, .int .i64 b, .string s]
  have hg := own_ne ho hG hT
  have HP : Hid (∀ W, Below w.heap.size w W → Calls Try.prog 57 #[.pointer (some ⟨g, o + 1, none⟩), .agg #[.int .i64 a, .int .i64 b, .string s]] W fun e w' => e = .returned (.tuple #[]) ∧ ∃ v', PG g TG (cs.set (o + 1) v') w v (insA l (a, b, s)) w' v') := fun W hW => by
    have hi := slot_of_rise hr b
    have hI := (insC_any (ho.later hW) (by omega) hi.le a b s)
    rw [slot_ins (x := (a, b, s)) hi] at hI
    refine (ddput_any (fun k => v.ownBlock = some k) g (o + 1) TG cs v l _ a b s _ W (hG.laterB hW) hco hg (fun k e => e) (fun k e => (ho.later hW).lt k e) (ho.later hW) hr (by omega) hi hI).mono ?_
    rintro e w' ⟨rfl, W1, v', h⟩
    exact ⟨rfl, v', (h.since hW).pg hG hg⟩
  have hcs : o + 1 < cs.length := by
    rcases Nat.lt_or_ge (o + 1) cs.length with q | q
    · exact q
    · rw [List.getElem?_eq_none q] at hco; cases hco
  have HC : Hid (o + 1 < cs.length ∧ cs[o]? = some (.int .i64 fl) ∧ TG ≠ 90) := ⟨hcs, hcf, hT⟩
  have k0 : ∀ W, Below (w.alloc (.cells #[.int .i64 a, .int .i64 b, .string s] 90)).heap.size (w.alloc (.cells #[.int .i64 a, .int .i64 b, .string s] 90)) W → W.cell? ⟨w.heap.size, 0, none⟩ = some (.int .i64 a) := fun W hW => by rw [blk_at (A0.laterB hW)]; rfl
  have k1 : ∀ W, Below (w.alloc (.cells #[.int .i64 a, .int .i64 b, .string s] 90)).heap.size (w.alloc (.cells #[.int .i64 a, .int .i64 b, .string s] 90)) W → W.cell? ⟨w.heap.size, 1, none⟩ = some (.int .i64 b) := fun W hW => by rw [blk_at (A0.laterB hW)]; rfl
  have k2 : ∀ W, Below (w.alloc (.cells #[.int .i64 a, .int .i64 b, .string s] 90)).heap.size (w.alloc (.cells #[.int .i64 a, .int .i64 b, .string s] 90)) W → W.cell? ⟨w.heap.size, 2, none⟩ = some (.string s) := fun W hW => by rw [blk_at (A0.laterB hW)]; rfl
  have bd : Below w.heap.size w (w.alloc (.cells #[.int .i64 a, .int .i64 b, .string s] 90)).drew := below_then b0 (Below.refl _ _).drew
  have B0 : Hid _ := And.intro b0 bd
  have hgl := hG.lt
  have HG : Hid (v.ownBlock ≠ some g) := hg
  clear hG hco A0 ho hr b0 bd hcf hT hcs hg
  go_enter Try.func44, Try.ntmps44
  go_wp2_with fail
  generalize w.alloc (.cells #[.int .i64 a, .int .i64 b, .string s] 90) = w1 at *
  refine e_begin (S := fun W => Below w1.heap.size w1 W) 4 (by kernel_rfl) ((Below.refl _ _).drew) (fun hS => ?_)
  refine e_take (i := 0) (v := ?_) [1, 2, 4] rfl (by kernel_rfl) (by kernel_rfl) (by kernel_rfl) (by kernel_rfl) (by exact fun _ _ _ h => h) (by rfl) ?_ hS ?_
  rotate_left
  · ((intro w hSw; (try dsimp only at hSw); go_simp) <;> with_reducible rfl)
  (try simp only [Act.put, List.setIfInBounds_toArray, List.set_cons_zero, List.set_cons_succ])
  refine e_take (i := 1) (v := ?_) [2, 4] rfl (by kernel_rfl) (by kernel_rfl) (by kernel_rfl) (by kernel_rfl) (by exact fun _ _ _ h => h) (by rfl) ?_ hS ?_
  rotate_left
  · ((intro w hSw; (try dsimp only at hSw); go_simp) <;> with_reducible rfl)
  (try simp only [Act.put, List.setIfInBounds_toArray, List.set_cons_zero, List.set_cons_succ])
  refine e_take (i := 2) (v := ?_) [4] rfl (by kernel_rfl) (by kernel_rfl) (by kernel_rfl) (by kernel_rfl) (by exact fun _ _ _ h => h) (by rfl) ?_ hS ?_
  rotate_left
  · ((intro w hSw; (try dsimp only at hSw); go_simp) <;> with_reducible rfl)
  (try simp only [Act.put, List.setIfInBounds_toArray, List.set_cons_zero, List.set_cons_succ])
  refine e_take (i := 3) (v := ?_) [4] rfl (by kernel_rfl) (by kernel_rfl) (by kernel_rfl) (by kernel_rfl) (by exact fun _ _ _ h => h) (by rfl) ?_ hS ?_
  rotate_left
  · ((intro w hSw; (try dsimp only at hSw); go_simp) <;> with_reducible rfl)
  (try simp only [Act.put, List.setIfInBounds_toArray, List.set_cons_zero, List.set_cons_succ])
  clear hS
  refine e_last (z := 4) rfl (by kernel_rfl) (fun K hK => ?_)
  go_simp
  refine (Calls.mono (HP.out _ B0.out.2)) ?_
  rintro e w2 ⟨rfl, v1, hP⟩
  obtain ⟨va', vc', hv', -, -⟩ := hP.own.open
  have y1 := blk_at hP.blk (o + 1)
  rw [List.getElem?_set_self HC.out.1, hv'] at y1
  have F : Hid _ := hP
  clear hP HP
  go_wp2_with fail
  refine hK.out _ _ ?_
  clear hK K
  refine e_done (by kernel_rfl) ?_ _
  clear k0 k1 k2 B0
  have hlen := insA_len l (a, b, s)
  generalize hL : insA l (a, b, s) = L at *
  have HS : Hid _ := ddsize_any g (o + 1) va' L.length vc' w2 y1
  clear y1
  by_cases hbig : 64 < L.length
  · obtain ⟨x, r, rfl⟩ : ∃ x r, L = x :: r := by
      cases L with
      | nil => simp at hbig
      | cons x r => exact ⟨x, r, rfl⟩
    have em : mput (fl, l) (a, b, s) = (x.2.1, r) := by unfold mput; simp only [hL, if_pos hbig]; rfl
    have HE : Hid _ := em
    clear em
    have hbig' : (((x :: r).length : Nat) : Int) > 64 := by omega
    have hr9 : r.length ≤ 1000 := by simp at hlen; omega
    have NT : Hid _ := ddtake_any g (o + 1) TG _ v1 x r w2 F.out.blk (List.getElem?_set_self HC.out.1) HC.out.2.2 F.out.own hr9
    go_wp2_with fail
    refine (Calls.mono HS.out) ?_
    rintro e w3 ⟨rfl, rfl⟩
    go_wp2_with fail
    refine (Calls.mono NT.out) ?_
    rintro e w4 ⟨rfl, v2, hP⟩
    rw [List.set_set] at hP
    have NN : Hid _ := an_number x.1 x.2.1 x.2.2 w4
    have HQ : Hid _ := hP
    clear hP NT HS
    go_wp2_with fail
    refine (Calls.mono NN.out) ?_
    rintro e w5 ⟨rfl, b5⟩
    have B5 := HQ.out.blk.laterB b5
    have y1 := blk_at B5 o
    rw [List.getElem?_set_ne (by omega), HC.out.2.1] at y1
    have y2 := blk_frozen B5 o
    have hn1 : ∀ k, v1.ownBlock = some k → k ≠ g := fun k hk e => by
      rcases F.out.or k hk with q | q
      · exact HG.out (by rw [← e]; exact q)
      · omega
    have hn2 : ∀ k, v2.ownBlock = some k → k ≠ g := fun k hk e => by
      rcases HQ.out.or k hk with q | q
      · exact hn1 k q e
      · have := F.out.turned.size; omega
    have G : Hid (PG g TG ((cs.set (o + 1) v2).set o (.int .i64 x.2.1)) w v r (w5.setCell ⟨g, o, none⟩ (.int .i64 x.2.1)) v2) := by
      refine ⟨?_, B5.set o _, ((HQ.out.own.later b5)).same (fun k hk => setBlk_other (hn2 k hk)), fun k hk => ?_⟩
      · have t1 : Turned (fun k => v.ownBlock = some k ∨ k = g) w w4 := F.out.turned.trans (HQ.out.turned.mono (fun k e => by
          rcases e with e | e
          · rcases F.out.or k e with q | q
            · exact .inl (.inl q)
            · exact .inr q
          · exact .inl (.inr e)))
        have t2 : Turned (fun k => v.ownBlock = some k ∨ k = g) w w5 := t1.trans (tnd_of b5)
        exact t2.trans ⟨rfl, rfl, rfl, by simp [World.setCell], fun k hk hn => setBlk_other (fun e => hn (.inl (.inr e)))⟩
      · rcases HQ.out.or k hk with q | q
        · exact F.out.or k q
        · have := F.out.turned.size; exact .inr (by omega)
    clear NN HQ F b5 B5 hn1 hn2
    go_wp2
    go_end0
    rw [HE.out]
    exact ⟨rfl, v2, G.out⟩
  · have em : mput (fl, l) (a, b, s) = (fl, L) := by unfold mput; simp only [hL, if_neg hbig]
    have HE : Hid _ := em
    clear em
    have hbig' : ¬ ((L.length : Nat) : Int) > 64 := by omega
    go_wp2_with fail
    refine (Calls.mono HS.out) ?_
    rintro e w3 ⟨rfl, rfl⟩
    go_wp2
    go_end0
    rw [HE.out]
    refine ⟨rfl, v1, ?_⟩
    simp only
    rw [set_same12 HC.out.2.1]
    exact F.out
end Go.Proofs.Ytkcbbaanlkpeiaa

