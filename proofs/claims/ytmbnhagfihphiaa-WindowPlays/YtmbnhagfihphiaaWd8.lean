/- What a window's calls do, without Go; what always holds of it. -/
import Derived.Test.YtmbnhagfihphiaaWd7
namespace Go.Proofs.Ytmbnhagfihphiaa
open Go.RowKit
set_option linter.unusedVariables false
set_option linter.unusedSimpArgs false
set_option maxRecDepth 8000

def Wn.comeE (m : Wn) (n : BitVec 32) : Bool → Int
  | true => if m.nows = 64 then 4 else 0
  | false => if (m.room n && !m.has n) = true then 0 else 5
def Wn.come (m : Wn) (n : BitVec 32) (id : Int) : Bool → Wn
  | true => if m.nows = 64 then m else m.waits [(n, true, id)]
  | false => if (m.room n && !m.has n) = true then m.took (n, false, id) else m
def Wn.doneE (m : Wn) : Int := if m.busy = 0 then 5 else 0
def Wn.nextI (m : Wn) : Int := (m.wait.head?.map (·.2.2)).getD 0
def Wn.nextB (m : Wn) : Bool := m.wait.head?.isSome
theorem wdCome_any (g : Nat) (p : Wq) (m : Wn) (n : BitVec 32) (now : Bool) (id : Int) (w : World) (h : (wd g p m).Ok w) (hw : m.Wf) :
    Calls Try.prog 10 #[.pointer (some ⟨g, 0, none⟩), .int .u32 (n.toNat : Int), .bool now, .int .i64 id] w fun e w' => e = .returned (.int .i64 (m.comeE n now)) ∧ ∃ p', Step w w' (wd g p m) (wd g p' (m.come n id now)) := by
  cases now
  · unfold Wn.comeE Wn.come
    by_cases h0 : (m.room n && !m.has n) = true
    · simp only [if_pos h0]; exact wdCome_yes g p m n id w h hw h0
    · simp only [if_neg h0]
      exact (wdCome_no g p m n id w h hw (by simpa using h0)).mono (fun e w' ⟨h1, h2⟩ => ⟨h1, p, Step.quiet h h2⟩)
  · unfold Wn.comeE Wn.come
    by_cases h0 : m.nows = 64
    · simp only [if_pos h0]
      exact (wdCome_full g p m n id w h h0).mono (fun e w' ⟨h1, h2⟩ => ⟨h1, p, Step.quiet h h2⟩)
    · simp only [if_neg h0]; exact wdCome_now g p m n id w h hw h0
theorem wdNext_any (g : Nat) (p : Wq) (m : Wn) (w : World) (h : (wd g p m).Ok w) (hw : m.Wf) :
    Calls Try.prog 12 #[.pointer (some ⟨g, 0, none⟩)] w fun e w' => e = .returned (.tuple #[.int .i64 m.nextI, .bool m.nextB]) ∧ Step w w' (wd g p m) (wd g p m.next) := by
  cases hm : m.wait with
  | nil =>
    have e1 : m.next = m := by unfold Wn.next; rw [hm]; cases m; simp at hm; subst hm; rfl
    have e2 : m.nextI = 0 := by unfold Wn.nextI; rw [hm]; rfl
    have e3 : m.nextB = false := by unfold Wn.nextB; rw [hm]; rfl
    rw [e1, e2, e3]
    exact (wdNext_none g p m w h hm).mono (fun e w' ⟨h1, h2⟩ => ⟨h1, by rw [h2]; exact Step.refl h⟩)
  | cons x r =>
    obtain ⟨n, b, id⟩ := x
    have e2 : m.nextI = id := by unfold Wn.nextI; rw [hm]; rfl
    have e3 : m.nextB = true := by unfold Wn.nextB; rw [hm]; rfl
    rw [e2, e3]
    cases b
    · exact wdNext_false g p m n id r w h hw hm
    · exact wdNext_true g p m n id r w h hw hm
theorem wdDone_any (g : Nat) (p : Wq) (m : Wn) (w : World) (h : (wd g p m).Ok w) (hw : m.Wf) :
    Calls Try.prog 14 #[.pointer (some ⟨g, 0, none⟩)] w fun e w' => e = .returned (.int .i64 m.doneE) ∧ Step w w' (wd g p m) (wd g p m.done) := by
  unfold Wn.doneE
  by_cases h0 : m.busy = 0
  · rw [if_pos h0]
    have e1 : m.done = m := by unfold Wn.done; rw [h0]; cases m; simp at h0; subst h0; rfl
    rw [e1]
    exact (wdDone_no g p m w h h0).mono (fun e w' ⟨h1, h2⟩ => ⟨h1, by rw [h2]; exact Step.refl h⟩)
  · rw [if_neg h0]
    exact wdDone_yes g p m w h hw (by omega)

/-- what holds of a window amid inOrder -/
structure Wn.Half (m : Wn) : Prop where
  one : 1 ≤ m.size
  most : m.size ≤ 64
  room : m.busy ≤ m.size
  inn : ∀ c ∈ m.held, gap m.exp c.1 < ((m.size - m.busy : Nat) : Int)
  uniq : (m.held.map (·.1)).Nodup
  nn : ∀ c ∈ m.held, c.2.1 = false
/-- what holds of it between two calls -/
structure Wn.Inv (m : Wn) (N : Nat) : Prop where
  half : m.Half
  nx : ∀ c ∈ m.held, c.1 ≠ m.exp
  now64 : m.nows ≤ 64
  nows : m.nows = nowN m.wait
  few : m.held.length + m.wait.length ≤ N
theorem Wn.Inv.wf {m : Wn} {N : Nat} (h : m.Inv N) (hN : N ≤ 10000) : m.Wf := ⟨h.half.one, h.half.most, h.half.room, h.now64, by have := h.few; omega, h.nows⟩
theorem new_inv (first : BitVec 32) (n : Nat) (h1 : 1 ≤ n) (h2 : n ≤ 64) : (Wn.new first n).Inv 0 :=
  ⟨⟨h1, h2, by simp [Wn.new], (fun c hc => by cases hc), by simp [Wn.new], (fun c hc => by cases hc)⟩, (fun c hc => by cases hc), by simp [Wn.new], rfl, by simp [Wn.new]⟩
theorem gap_self (x : BitVec 32) : gap x x = 0 := by unfold gap; simp
theorem gap_succ {x c : BitVec 32} (h : c ≠ x) : gap (x + 1#32) c = gap x c - 1 := by
  have h1 := x.isLt; have h2 := c.isLt
  have h3 : c.toNat ≠ x.toNat := fun e => h (BitVec.eq_of_toNat_eq e)
  unfold gap
  rw [BitVec.toNat_add]
  simp only [BitVec.toNat_ofNat]
  omega
theorem ix_at {l : List Cm} {n : BitVec 32} {k : Nat} (h : ix l n = some k) : ∃ hk : k < l.length, l[k].1 = n := by
  unfold ix at h; rw [List.findIdx?_eq_some_iff_getElem] at h
  obtain ⟨hk, h1, _⟩ := h
  exact ⟨hk, by simpa using h1⟩
theorem ix_not {l : List Cm} {n : BitVec 32} (h : ix l n = none) : ∀ x ∈ l, x.1 ≠ n := by
  unfold ix at h; rw [List.findIdx?_eq_none_iff] at h
  intro x hx; simpa using h x hx
theorem pull_half {m : Wn} {k : Nat} (h : m.Half) (hk : ix m.held m.exp = some k) : (m.pull k).Half ∧ (m.pull k).high = m.high ∧ m.busy < m.size := by
  obtain ⟨hl, he⟩ := ix_at hk
  have hr : m.busy < m.size := by
    have := h.inn m.held[k] (List.getElem_mem _)
    rw [he, gap_self] at this
    omega
  have hp : (m.held[k] :: m.held.eraseIdx k).Perm m.held := by
    have e1 : m.held = m.held.take k ++ m.held[k] :: m.held.drop (k + 1) := by rw [← List.drop_eq_getElem_cons hl, List.take_append_drop]
    have e2 : m.held.eraseIdx k = m.held.take k ++ m.held.drop (k + 1) := List.eraseIdx_eq_take_drop_succ _ _
    rw [e2]
    exact List.Perm.trans List.perm_middle.symm (by rw [← e1])
  have hn : ((m.held[k] :: m.held.eraseIdx k).map (·.1)).Nodup := (hp.map _).nodup_iff.2 h.uniq
  rw [List.map_cons, List.nodup_cons] at hn
  have hsub : ∀ c ∈ m.held.eraseIdx k, c ∈ m.held := fun c hc => List.mem_of_mem_eraseIdx hc
  refine ⟨⟨h.one, h.most, by show m.busy + 1 ≤ m.size; omega, fun c hc => ?_, hn.2, fun c hc => h.nn c (hsub c hc)⟩, ?_, hr⟩
  · have hc' : c ∈ m.held.eraseIdx k := hc
    have hne : c.1 ≠ m.exp := fun e => hn.1 (by rw [he, ← e]; exact List.mem_map_of_mem hc')
    have h1 := h.inn c (hsub c hc')
    show gap (m.exp + 1#32) c.1 < ((m.size - (m.busy + 1) : Nat) : Int)
    rw [gap_succ hne]
    omega
  · show m.exp + 1#32 + BitVec.ofNat 32 (m.size - (m.busy + 1)) - 1#32 = m.exp + BitVec.ofNat 32 (m.size - m.busy) - 1#32
    have : m.size - m.busy = (m.size - (m.busy + 1)) + 1 := by omega
    rw [this, BitVec.ofNat_add]
    generalize BitVec.ofNat 32 (m.size - (m.busy + 1)) = d
    have : m.exp + 1#32 + d = m.exp + (d + 1#32) := by rw [BitVec.add_assoc, BitVec.add_comm 1#32 d]
    rw [this]
theorem ord_half : ∀ (f : Nat) (m : Wn) (l : List Cm), m.Half → (∀ c ∈ l, c.2.1 = false) → m.held.length ≤ f →
    (Wn.ord f m l).1.Half ∧ (Wn.ord f m l).1.high = m.high ∧ (∀ c ∈ (Wn.ord f m l).2, c.2.1 = false) ∧ (∀ c ∈ (Wn.ord f m l).1.held, c.1 ≠ (Wn.ord f m l).1.exp)
  | 0, m, l, h, hl, hf => ⟨h, rfl, hl, fun c hc => by
      have : m.held = [] := List.eq_nil_of_length_eq_zero (by omega)
      have hc' : c ∈ m.held := hc
      rw [this] at hc'; cases hc'⟩
  | f + 1, m, l, h, hl, hf => by
    rw [Wn.ord]
    cases hk : ix m.held m.exp with
    | none => exact ⟨h, rfl, hl, ix_not hk⟩
    | some k =>
      obtain ⟨hlt, he⟩ := ix_at hk
      obtain ⟨h1, h2, h3⟩ := pull_half h hk
      have ih := ord_half f (m.pull k) (l ++ [m.held.getD k (0#32, false, 0)]) h1 (fun c hc => by
        rcases List.mem_append.1 hc with hc | hc
        · exact hl c hc
        · rw [List.mem_singleton.1 hc, List.getD_eq_getElem?_getD, List.getElem?_eq_getElem hlt]; exact h.nn _ (List.getElem_mem _)) (by
        show (m.held.eraseIdx k).length ≤ f
        rw [List.length_eraseIdx, if_pos hlt]; omega)
      exact ⟨ih.1, ih.2.1.trans h2, ih.2.2⟩
theorem nowN_zero {l : List Cm} (h : ∀ c ∈ l, c.2.1 = false) : nowN l = 0 := by
  unfold nowN; rw [List.filter_eq_nil_iff.2 (fun c hc => by rw [h c hc]; simp)]; rfl
theorem took_inv {m : Wn} {N : Nat} (h : m.Inv N) (n : BitVec 32) (id : Int) (h0 : (m.room n && !m.has n) = true) : (m.took (n, false, id)).Inv (N + 1) ∧ (m.took (n, false, id)).high = m.high ∧ (m.took (n, false, id)).size = m.size := by
  simp only [Bool.and_eq_true, Bool.not_eq_true'] at h0
  have hh : (m.hold (n, false, id)).Half := by
    refine ⟨h.half.one, h.half.most, h.half.room, fun c hc => ?_, ?_, fun c hc => ?_⟩
    · rcases List.mem_append.1 (show c ∈ m.held ++ [(n, false, id)] from hc) with hc | hc
      · exact h.half.inn c hc
      · rw [List.mem_singleton.1 hc]; have := h0.1; unfold Wn.room at this; rw [decide_eq_true_eq] at this; exact this
    · show ((m.held ++ [(n, false, id)]).map (·.1)).Nodup
      rw [List.map_append, List.nodup_append]
      refine ⟨h.half.uniq, by simp, fun a ha b hb e => ?_⟩
      simp at hb
      subst hb
      subst e
      obtain ⟨c, hc, rfl⟩ := List.mem_map.1 ha
      have := h0.2
      unfold Wn.has at this
      rw [List.any_eq_false] at this
      exact this c hc (by simp)
    · rcases List.mem_append.1 (show c ∈ m.held ++ [(n, false, id)] from hc) with hc | hc
      · exact h.half.nn c hc
      · rw [List.mem_singleton.1 hc]
  obtain ⟨a1, a2, a3, a4⟩ := ord_half (m.held.length + 1) (m.hold (n, false, id)) [] hh (fun c hc => by cases hc) (by simp [Wn.hold])
  obtain ⟨o1, o2, o3, o4⟩ := ord_len (m.held.length + 1) (m.hold (n, false, id)) []
  unfold Wn.took
  generalize Wn.ord (m.held.length + 1) (m.hold (n, false, id)) [] = R at *
  refine ⟨⟨⟨a1.one, a1.most, a1.room, a1.inn, a1.uniq, a1.nn⟩, a4, ?_, ?_, ?_⟩, ?_, o3⟩
  · show R.1.nows + nowN R.2 ≤ 64
    rw [nowN_zero a3, o2]; exact h.now64
  · show R.1.nows + nowN R.2 = nowN (R.1.wait ++ R.2)
    rw [nowN_append, o2, o1]; show m.nows + _ = nowN m.wait + _; rw [h.nows]
  · show R.1.held.length + (R.1.wait ++ R.2).length ≤ N + 1
    have e : (m.hold (n, false, id)).held.length = m.held.length + 1 := by simp [Wn.hold]
    have := h.few
    rw [List.length_append, o1]
    show _ + (m.wait.length + _) ≤ _
    rw [e] at o4
    simp only [List.length_nil] at o4
    omega
  · show R.1.high = m.high
    rw [a2]; rfl
theorem come_inv {m : Wn} {N : Nat} (h : m.Inv N) (n : BitVec 32) (id : Int) (now : Bool) : (m.come n id now).Inv (N + 1) ∧ (m.come n id now).high = m.high ∧ (m.come n id now).size = m.size ∧ (now = true → (m.come n id now).held = m.held ∧ (m.come n id now).busy = m.busy) := by
  have h1 : m.Inv (N + 1) := ⟨h.half, h.nx, h.now64, h.nows, by have := h.few; omega⟩
  cases now
  · unfold Wn.come
    by_cases h0 : (m.room n && !m.has n) = true
    · simp only [if_pos h0]
      have := took_inv h n id h0
      exact ⟨this.1, this.2.1, this.2.2, fun e => by cases e⟩
    · simp only [if_neg h0]
      exact ⟨h1, by first | rfl | simp, by first | rfl | simp, by intro e; cases e⟩
  · unfold Wn.come
    by_cases h0 : m.nows = 64
    · simp only [if_pos h0]
      exact ⟨h1, by first | rfl | simp, by first | rfl | simp, fun _ => ⟨by first | rfl | simp, by first | rfl | simp⟩⟩
    · simp only [if_neg h0]
      have h64 := h.now64
      have e1 : nowN [(n, true, id)] = 1 := by rw [nowN_one]; rfl
      refine ⟨⟨⟨h.half.one, h.half.most, h.half.room, h.half.inn, h.half.uniq, h.half.nn⟩, h.nx, ?_, ?_, ?_⟩, rfl, rfl, fun _ => ⟨rfl, rfl⟩⟩
      · show m.nows + nowN [(n, true, id)] ≤ 64
        rw [e1]; omega
      · show m.nows + nowN [(n, true, id)] = nowN (m.wait ++ [(n, true, id)])
        rw [nowN_append, h.nows]
      · show m.held.length + (m.wait ++ [(n, true, id)]).length ≤ N + 1
        have := h.few
        rw [List.length_append, List.length_singleton]; omega
theorem next_inv {m : Wn} {N : Nat} (h : m.Inv N) : m.next.Inv N ∧ m.next.high = m.high ∧ m.next.size = m.size := by
  refine ⟨⟨⟨h.half.one, h.half.most, h.half.room, h.half.inn, h.half.uniq, h.half.nn⟩, h.nx, ?_, ?_, ?_⟩, rfl, rfl⟩
  · show m.nows - _ ≤ 64
    have := h.now64; omega
  · show m.nows - _ = nowN m.wait.tail
    rw [h.nows]
    cases hm : m.wait with
    | nil => rfl
    | cons x r =>
      have e : nowN (x :: r) = nowN [x] + nowN r := nowN_append [x] r
      rw [e, nowN_one]
      simp only [List.head?_cons, Option.map_some, Option.getD_some, List.tail_cons]
      split <;> omega
  · show m.held.length + m.wait.tail.length ≤ N
    have := h.few
    rw [List.length_tail]; omega
theorem done_inv {m : Wn} {N : Nat} (h : m.Inv N) : m.done.Inv N ∧ (m.done.high = m.high ∨ m.done.high = m.high + 1#32) ∧ m.done.size = m.size := by
  refine ⟨⟨⟨h.half.one, h.half.most, by have := h.half.room; show m.busy - 1 ≤ m.size; omega, fun c hc => ?_, h.half.uniq, h.half.nn⟩, h.nx, h.now64, h.nows, h.few⟩, ?_, rfl⟩
  · have := h.half.inn c hc
    show gap m.exp c.1 < ((m.size - (m.busy - 1) : Nat) : Int)
    omega
  · by_cases h0 : m.busy = 0
    · left
      show m.exp + BitVec.ofNat 32 (m.size - (m.busy - 1)) - 1#32 = m.exp + BitVec.ofNat 32 (m.size - m.busy) - 1#32
      rw [h0]
    · right
      show m.exp + BitVec.ofNat 32 (m.size - (m.busy - 1)) - 1#32 = m.exp + BitVec.ofNat 32 (m.size - m.busy) - 1#32 + 1#32
      have hr := h.half.room
      have : m.size - (m.busy - 1) = (m.size - m.busy) + 1 := by omega
      rw [this, BitVec.ofNat_add]
      generalize BitVec.ofNat 32 (m.size - m.busy) = d
      have e1 : m.exp + (d + 1#32) - 1#32 = m.exp + d := by rw [← BitVec.add_assoc, BitVec.add_sub_cancel]
      have e2 : m.exp + d - 1#32 + 1#32 = m.exp + d := BitVec.sub_add_cancel _ _
      rw [e2]; exact e1
/-- so many different numbers below d are at most d -/
theorem pigeon : ∀ (d : Nat) (l : List Nat), l.Nodup → (∀ x ∈ l, x < d) → l.length ≤ d
  | 0, l, _, h => by
    cases l with
    | nil => simp
    | cons x r => exact absurd (h x (by simp)) (by omega)
  | d + 1, l, hn, h => by
    have h1 := pigeon d (l.erase d) (hn.erase d) (fun x hx => by
      have hx' := hn.mem_erase_iff.1 hx
      have := h x hx'.2
      have := hx'.1
      omega)
    rw [List.length_erase] at h1
    split at h1 <;> omega
theorem half_few {m : Wn} (h : m.Half) : m.held.length + m.busy ≤ m.size := by
  have h1 := pigeon (m.size - m.busy) (m.held.map (fun c => (gap m.exp c.1).toNat)) (by
    have e : m.held.map (fun c => (gap m.exp c.1).toNat) = (m.held.map (·.1)).map (fun x => (gap m.exp x).toNat) := by rw [List.map_map]; rfl
    rw [e]
    exact (List.pairwise_map.2 (h.uniq.imp (fun {a b} hab e => hab (by
      have g1 := gap_bd m.exp a
      have g2 := gap_bd m.exp b
      have e2 : gap m.exp a = gap m.exp b := by omega
      unfold gap at e2
      have := a.isLt; have := b.isLt; have := m.exp.isLt
      exact BitVec.eq_of_toNat_eq (by omega)))))) (fun x hx => by
    obtain ⟨c, hc, rfl⟩ := List.mem_map.1 hx
    have := h.inn c hc
    have := gap_bd m.exp c.1
    omega)
  rw [List.length_map] at h1
  have := h.room
  omega
end Go.Proofs.Ytmbnhagfihphiaa
