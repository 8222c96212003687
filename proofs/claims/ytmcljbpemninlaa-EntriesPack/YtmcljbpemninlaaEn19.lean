/- Logs that the law makes; runs of a log, and of none; entries of terms. -/
import Derived.Test.YtmcljbpemninlaaEn18
namespace Go.Proofs.Ytmcljbpemninlaa
open Go.RowKit Go.Shelf
set_option linter.unusedVariables false
set_option maxRecDepth 4000

theorem lawruns9_log (g : Nat) (m : Lm) (w : World) (h : Lg w g m) (hw : m.Wf) :
    Calls Try.prog 36 #[.pointer (some ⟨g, 0, none⟩)] w fun e w' => ∃ v, e = .returned v ∧ RnOwn w' w.heap.size v (m.runK m.l.length) ∧ Below w.heap.size w w' := by
  obtain ⟨ks, h1, h2⟩ := h.blocks
  have hfu := hw.full
  have hl := m.runK_len m.l.length
  refine lawruns9 (some ⟨g, 0, none⟩) (m.runK m.l.length) w (by omega) fun x6 c hb hc hB => ⟨c :: ks, fun k hk => ?_, ?_⟩
  · rcases List.mem_cons.1 hk with rfl | hk
    · exact ⟨hB.lt, by omega⟩
    · have := h1 k hk; have := hb.size; exact ⟨by omega, by omega⟩
  · refine seq9_stops 8 (by omega) c g m (c :: ks) x6 hw hB (h.later hb) (fun k hk => ?_) (fun W w' hW hk => ?_) (by simp)
    · rcases List.mem_cons.1 hk with rfl | hk
      · exact hB.lt
      · have := h1 k hk; have := hb.size; omega
    · refine h2 w' (fun k hk' => ?_)
      have hlt := h1 k hk'
      rw [hk k (List.mem_cons_of_mem _ hk'), hW.block k (by have := hb.size; omega), hb.block k hlt]
theorem lawruns9_nil (w : World) :
    Calls Try.prog 36 #[.pointer none] w fun e w' => ∃ v, e = .returned v ∧ RnOwn w' w.heap.size v [] ∧ Below w.heap.size w w' :=
  lawruns9 none [] w (by simp) fun x6 c hb hc hB => ⟨[c], fun k hk => by rw [List.mem_singleton.1 hk]; exact ⟨hB.lt, by omega⟩, seq9_nil 8 (by omega) c x6 hB⟩

theorem goodB_append (t : Int) (a b : List Ent) : goodB t (a ++ b) = (goodB t a && goodB (lastT t a) b) := by
  induction a generalizing t with
  | nil => simp [goodB, lastT]
  | cons x a ih => simp only [List.cons_append, goodB, lastT, ih, Bool.and_assoc]
theorem goodB_rise {t : Int} {l : List Ent} (h : goodB t l = true) : (t :: l.map (fun e : Ent => e.2.1)).Pairwise (· ≤ ·) := by
  induction l generalizing t with
  | nil => simp
  | cons x l ih =>
    simp only [goodB, Bool.and_eq_true, decide_eq_true_eq] at h
    have := ih h.2
    rw [List.map_cons]
    refine List.pairwise_cons.2 ⟨fun y hy => ?_, this⟩
    have hp := List.pairwise_cons.1 this
    rcases List.mem_cons.1 hy with rfl | hy
    · exact h.1.2
    · exact Int.le_trans h.1.2 (hp.1 y hy)
theorem good_of {t : Int} {l : List Ent} (h1 : ∀ e ∈ l, canE e = true) (h2 : (t :: l.map (fun e : Ent => e.2.1)).Pairwise (· ≤ ·)) : goodB t l = true := by
  induction l generalizing t with
  | nil => rfl
  | cons x l ih =>
    rw [List.map_cons] at h2
    have hp := List.pairwise_cons.1 h2
    simp only [goodB, Bool.and_eq_true, decide_eq_true_eq]
    exact ⟨⟨h1 x (by simp), hp.1 _ (by simp)⟩, ih (fun e he => h1 e (List.mem_cons_of_mem _ he)) hp.2⟩
theorem Lm.Wf.good {m : Lm} (hw : m.Wf) : goodB m.ft m.l = true := good_of hw.each hw.rise
theorem Lm.tt_eq (m : Lm) : m.tt = lastT m.ft m.l := by
  unfold Lm.tt Lm.top
  rcases List.eq_nil_or_concat m.l with e | ⟨l', x, e⟩
  · rw [(Lm.part_fl (m := m) (n := ((m.fl + m.l.length : Nat) : Int)) (by rw [e]; simp)).2, e]; rfl
  · have hl : m.l.length = l'.length + 1 := by rw [e]; simp
    have hi : l'.length < m.l.length := by omega
    rw [(Lm.part_in (m := m) (n := ((m.fl + m.l.length : Nat) : Int)) hi (by omega)).2]
    have : m.l[l'.length] = x := by simp [e]
    rw [this, e, List.concat_eq_append, lastT_snoc]
theorem Lm.with_wf {m : Lm} {l : List Ent} (hw : m.Wf) (hl : m.l.length + l.length ≤ 4096) (hg : goodB m.tt l = true) : (m.with l).Wf := by
  have hgd : goodB m.ft (m.l ++ l) = true := by rw [goodB_append, hw.good, ← m.tt_eq, hg]; rfl
  exact ⟨hw.place, hw.term, hw.mask, by show (m.l ++ l).length ≤ 4096; rw [List.length_append]; exact hl, goodB_can hgd, goodB_rise hgd⟩

/-- what log answers -/
def LogR (w w' : World) (a t k : Int) (l : List Ent) (r : Ending) : Prop :=
  (newB a t k = true ∧ l.length ≤ 4096 ∧ goodB t l = true ∧ ∃ g, r = .returned (.pointer (some ⟨g, 0, none⟩)) ∧ w.heap.size ≤ g ∧ Lg w' g ⟨a.toNat, t.toNat, k.toNat, l⟩) ∨
  (¬ (newB a t k = true ∧ l.length ≤ 4096 ∧ goodB t l = true) ∧ r = .returned (.pointer none))
theorem logm_wf {a t k : Int} {l : List Ent} (h1 : newB a t k = true) (h2 : l.length ≤ 4096) (h3 : goodB t l = true) : (⟨a.toNat, t.toNat, k.toNat, l⟩ : Lm).Wf := by
  have h := newB_yes h1
  refine ⟨by show a.toNat ≤ _; omega, by show t.toNat ≤ _; omega, by show 1 ≤ k.toNat ∧ k.toNat ≤ 31; omega, h2, goodB_can h3, ?_⟩
  have := goodB_rise h3
  show (((t.toNat : Nat) : Int) :: l.map (fun e : Ent => e.2.1)).Pairwise (· ≤ ·)
  rw [show ((t.toNat : Nat) : Int) = t by omega]; exact this
set_option maxHeartbeats 1000000 in
theorem log9_any (a t k : Int) (x : Option Addr) (len cap : Nat) (l : List Ent) (w : World) (hl : l.length = len) (hlc : len ≤ cap) (hlen : len ≤ 140737488355328) (hA : EArgs w x l) :
    Calls Try.prog 34 #[.int .i64 a, .int .i64 t, .int .i64 k, .slice x len cap] w fun r w' => LogR w w' a t k l r ∧ Below w.heap.size w w' := by
  subst hl
  cases hnb : newB a t k with
  | false =>
    have HN := enNew_no a t k w hnb
    have F : Hid (LogR w w a t k l (.returned (.pointer none))) := by exact .inr ⟨(fun h => by rw [hnb] at h; cases h.1), rfl⟩
    clear hA hnb
    go_enter Try.func34, Try.ntmps34
    go_wp2_with (go_at_call 60; refine HN.mono ?_; rintro e w' ⟨rfl, rfl⟩)
    go_ret
    exact ⟨F.out, Below.refl _ _⟩
  | true =>
    have hb := newB_yes hnb
    obtain ⟨a', ha⟩ : ∃ a' : Nat, a = a' := ⟨a.toNat, by omega⟩
    obtain ⟨t', ht⟩ : ∃ t' : Nat, t = t' := ⟨t.toNat, by omega⟩
    obtain ⟨k', hk⟩ : ∃ k' : Nat, k = k' := ⟨k.toNat, by omega⟩
    subst ha; subst ht; subst hk
    have HN := enNew_yes a' t' k' w hnb
    have hwf := Lm.new_wf hnb
    have htt : (Lm.new a' t' k').tt = t' := by rw [Lm.tt_eq]; rfl
    have HH : Hid _ := And.intro hnb (And.intro hwf (And.intro htt hA))
    clear hA hwf htt hb hnb
    go_enter Try.func34, Try.ntmps34
    go_wp2_with fail
    refine HN.mono ?_
    rintro e w1 ⟨g, rfl, hg, L1, b1⟩
    obtain ⟨hnb, hwf, htt, hA⟩ := HH.out
    have hA1 := hA.later b1
    by_cases hf : 4096 < l.length
    · have HW := enWith_full g (Lm.new a' t' k') x l.length cap w1 L1 hwf hlen (by show 4096 < ([] : List Ent).length + l.length; simpa using hf)
      have F : Hid (LogR w w1 a' t' k' l (.returned (.pointer none))) := by exact .inr ⟨(fun h => by omega), rfl⟩
      clear hA hA1 hwf htt L1 HN HH hg hnb
      go_wp2_with (go_at_call 61; refine HW.mono ?_; rintro e w' ⟨rfl, rfl⟩)
      go_ret
      exact ⟨F.out, b1⟩
    · have HW := enWith_any g (Lm.new a' t' k') x l.length cap l w1 L1 hwf rfl hlc (by show ([] : List Ent).length + l.length ≤ 4096; simp; omega) hA1
      have HX : Hid _ := And.intro b1 (And.intro htt (And.intro hnb hg))
      clear hA hA1 hwf htt L1 HN HH b1 hg hnb
      go_wp2_with fail
      refine HW.mono ?_
      rintro e w2 ⟨(⟨hgd, rfl⟩ | ⟨hgd, g2, rfl, hg2, L2⟩), hb2⟩
      · rw [HX.out.2.1] at hgd
        clear HW
        go_wp2
        go_ret
        exact ⟨.inr ⟨(fun h => by rw [hgd] at h; cases h.2.2), rfl⟩, below_then HX.out.1 hb2⟩
      · rw [HX.out.2.1] at hgd
        clear HW
        have F : Hid _ := And.intro L2 hg2
        clear L2 hg2
        go_wp2
        go_ret
        have hs := HX.out.1.size
        have h2 := F.out.2
        exact ⟨.inl ⟨HX.out.2.2.1, by omega, hgd, g2, rfl, by omega, F.out.1⟩, below_then HX.out.1 hb2⟩
end Go.Proofs.Ytmcljbpemninlaa
