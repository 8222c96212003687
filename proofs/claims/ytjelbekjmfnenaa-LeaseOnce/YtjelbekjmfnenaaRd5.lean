/- Reads: Ask, Len, Drop; the law's lists. -/
import Derived.Test.YtjelbekjmfnenaaRd4
import Derived.Deep.RegionWith
namespace Go.Proofs.Ytjelbekjmfnenaa
open Go.RowKit Go.Shelf
set_option linter.unusedVariables false
set_option linter.unusedSimpArgs false
set_option maxRecDepth 4000

def hasId (l : List (Int × Int)) (id : Int) : Bool := l.any (fun x => decide (x.1 = id))
def askE (l : List (Int × Int)) (id ix : Int) : Int := if ix < 0 then 1 else if hasId l id = true then 5 else if 100 ≤ l.length then 4 else 0
def askTo (l : List (Int × Int)) (id ix : Int) : List (Int × Int) := if askE l id ix = 0 then l ++ [(id, ix)] else l
theorem askTo_len {l : List (Int × Int)} (h : l.length ≤ 100) (id ix : Int) : (askTo l id ix).length ≤ 100 := by
  unfold askTo
  by_cases he : askE l id ix = 0
  · rw [if_pos he]
    unfold askE at he
    split at he
    · cases he
    · split at he
      · cases he
      · split at he
        · cases he
        · simp; omega
  · rw [if_neg he]; exact h
theorem rdAsk_nil (a b : Int) (w : World) : Calls Try.prog 20 #[.pointer none, .int .i64 a, .int .i64 b] w fun e w' => e = .returned (.int .i64 2) ∧ Below w.heap.size w w' := by
  have b1 : Below w.heap.size w (w.alloc (.cells #[.int .i64 a] 2)) := (Below.refl _ _).alloc (Nat.le_refl _) _
  have F : Hid _ := b1
  clear b1
  go_enter Try.func20, Try.ntmps20
  go_wp2
  go_ret
  exact ⟨rfl, F.out⟩
set_option maxHeartbeats 1000000 in
theorem rdAsk_any (g : Nat) (q : Option Nat) (l : List (Int × Int)) (a b : Int) (w : World) (h : (rdOb g q l).Ok w) (hl : l.length ≤ 100) :
    Calls Try.prog 20 #[.pointer (some ⟨g, 0, none⟩), .int .i64 a, .int .i64 b] w fun e w' => ∃ q', e = .returned (.int .i64 (askE l a b)) ∧ Step w w' (rdOb g q l) (rdOb g q' (askTo l a b)) := by
  have b1 : Below w.heap.size w (w.alloc (.cells #[.int .i64 a] 2)) := (Below.refl _ _).alloc (Nat.le_refl _) _
  have B1 := Blk.new' w 2 [.int .i64 a]
  have k1 := blk_at B1 0
  simp only [List.getElem?_cons_zero] at k1
  have HH : Hid _ := rdhas_any g q l w.heap.size a _ (h.later b1) (by omega) B1
  have HB : Hid _ := And.intro h (And.intro b1 B1)
  clear h b1 B1
  by_cases h0 : b < 0
  · have e1 : askE l a b = 1 := if_pos h0
    have e2 : askTo l a b = l := by unfold askTo; rw [e1]; rfl
    rw [e1, e2]
    have F : Hid _ := Step.quiet HB.out.1 HB.out.2.1
    clear e1 e2 HB HH
    go_enter Try.func20, Try.ntmps20
    go_wp2
    go_ret
    first | exact ⟨_, rfl, F.out⟩ | exact ⟨rfl, _, F.out⟩
  · have hE : Hid _ := (if_neg h0 : askE l a b = _)
    have HA : Hid (l.any (fun x => decide (x.1 = a)) = hasId l a) := rfl
    rw [HA.out] at HH
    clear HA
    cases hh : hasId l a with
    | true =>
      rw [hh] at HH
      have e1 : askE l a b = 5 := by unfold askE; rw [if_neg h0, if_pos hh]
      have e2 : askTo l a b = l := by unfold askTo; rw [e1]; rfl
      rw [e1, e2]
      clear e1 e2 hE hh
      go_enter Try.func20, Try.ntmps20
      go_wp2_with fail
      refine (Calls.mono HH.out) ?_
      rintro e w2 ⟨rfl, b2⟩
      have F : Hid _ := Step.quiet HB.out.1 (below_then HB.out.2.1 b2)
      clear b2 HB HH
      go_wp2
      go_ret
      first | exact ⟨_, rfl, F.out⟩ | exact ⟨rfl, _, F.out⟩
    | false =>
      rw [hh] at HH
      by_cases hf : 100 ≤ l.length
      · have e1 : askE l a b = 4 := by unfold askE; rw [if_neg h0, if_neg (by simp [hh]), if_pos hf]
        have e2 : askTo l a b = l := by unfold askTo; rw [e1]; rfl
        rw [e1, e2]
        have q1 : (100 : Int) ≤ l.length := by omega
        clear e1 e2 hE hh hf
        go_enter Try.func20, Try.ntmps20
        go_wp2_with fail
        refine (Calls.mono HH.out) ?_
        rintro e w2 ⟨rfl, b2⟩
        have bw : Hid _ := below_then HB.out.2.1 b2
        have HS : Hid _ := rdsize_any _ g q [] l w2 (HB.out.1.later bw.out)
        clear b2 HH
        go_wp2_with fail
        refine (Calls.mono HS.out) ?_
        rintro e w3 ⟨rfl, rfl⟩
        have F : Hid _ := Step.quiet HB.out.1 bw.out
        clear HS bw HB
        go_wp2
        go_ret
        first | exact ⟨_, rfl, F.out⟩ | exact ⟨rfl, _, F.out⟩
      · have e1 : askE l a b = 0 := by unfold askE; rw [if_neg h0, if_neg (by simp [hh]), if_neg hf]
        have e2 : askTo l a b = l ++ [(a, b)] := by unfold askTo; rw [if_pos e1]
        rw [e1, e2]
        have q1 : ¬ (100 : Int) ≤ l.length := by omega
        clear e1 e2 hE hh hf
        go_enter Try.func20, Try.ntmps20
        go_wp2_with fail
        refine (Calls.mono HH.out) ?_
        rintro e w2 ⟨rfl, b2⟩
        have bw : Hid _ := below_then HB.out.2.1 b2
        have HS : Hid _ := rdsize_any _ g q [] l w2 (HB.out.1.later bw.out)
        have k2 := cell_later b2 k1
        clear b2 HH
        go_wp2_with fail
        refine (Calls.mono HS.out) ?_
        rintro e w3 ⟨rfl, rfl⟩
        have HD : Hid _ := rdadd_any g q l a b w2.drew ((HB.out.1.later bw.out).drew) (by omega)
        clear HS k1
        go_wp2_with fail
        go_region_with (go_at_call 44; refine (Calls.mono HD.out) ?_; rintro e w4 ⟨q2, rfl, st⟩)
        all_goals
          have F : Hid _ := (Step.quiet HB.out.1 (bw.out.trans ((Below.refl _ _).drew))).trans st
          clear st HB bw HD
          go_wp2
          go_ret
          first | exact ⟨_, rfl, F.out⟩ | exact ⟨rfl, _, F.out⟩
theorem rdLen_any (g : Nat) (q : Option Nat) (l : List (Int × Int)) (w : World) (h : (rdOb g q l).Ok w) :
    Calls Try.prog 27 #[.pointer (some ⟨g, 0, none⟩)] w fun e w' => e = .returned (.int .i64 l.length) ∧ w = w' := by
  have HS : Hid _ := rdsize_any _ g q [] l w h
  clear h
  go_enter Try.func27, Try.ntmps27
  go_wp2_with fail
  refine (Calls.mono HS.out) ?_
  rintro e w1 ⟨rfl, rfl⟩
  go_wp2
  go_ret
  exact ⟨rfl, rfl⟩
theorem rdLen_nil (w : World) : Calls Try.prog 27 #[.pointer none] w fun e w' => e = .returned (.int .i64 0) ∧ w = w' := by
  go_enter Try.func27, Try.ntmps27
  go_wp2
  go_ret
  exact ⟨rfl, rfl⟩
theorem rdDrop_nil (w : World) : Calls Try.prog 25 #[.pointer none] w fun e w' => e = .returned (.slice none 0 0) ∧ Below w.heap.size w w' := by
  have HT : Hid _ := rdtake_nil 9223372036854775807 w
  go_enter Try.func25, Try.ntmps25
  go_wp2_with fail
  refine (Calls.mono HT.out) ?_
  rintro e w1 ⟨rfl, b1⟩
  have F : Hid _ := b1
  clear b1 HT
  go_wp2
  go_ret
  exact ⟨rfl, F.out⟩
theorem rdDrop_any (g : Nat) (q : Option Nat) (l : List (Int × Int)) (w : World) (h : (rdOb g q l).Ok w) (hl : l.length ≤ 1000) (h64 : ∀ x ∈ l, x.2 ≤ 9223372036854775807) :
    Calls Try.prog 25 #[.pointer (some ⟨g, 0, none⟩)] w fun e w' => ∃ v q', e = .returned v ∧ NOwn w' v (l.map (·.1)) ∧ (∀ b, v.ownBlock = some b → w.heap.size ≤ b ∧ q' ≠ some b) ∧ Step w w' (rdOb g q l) (rdOb g q' []) := by
  have HT := rdtake_any g q l 9223372036854775807 w h hl
  have e1 : upto 9223372036854775807 l = l := List.filter_eq_self.2 (fun x hx => by simpa using h64 x hx)
  have e2 : above 9223372036854775807 l = [] := List.filter_eq_nil_iff.2 (fun x hx => by simpa using h64 x hx)
  rw [e1, e2] at HT
  have H : Hid _ := HT
  clear HT e1 e2 h h64
  go_enter Try.func25, Try.ntmps25
  go_wp2_with fail
  refine (Calls.mono H.out) ?_
  rintro e w1 ⟨v, q', rfl, ho, hf, st⟩
  have F : Hid _ := And.intro ho (And.intro hf st)
  clear ho hf st H
  go_wp2
  go_ret
  exact ⟨v, q', rfl, F.out.1, F.out.2.1, F.out.2.2⟩
theorem lawready_any (g : Nat) (q : Option Nat) (l : List (Int × Int)) (r : Int) (w : World) (h : (rdOb g q l).Ok w) (hl : l.length ≤ 1000) :
    Calls Try.prog 23 #[.pointer (some ⟨g, 0, none⟩), .int .i64 r] w fun e w' => ∃ v q', e = .returned v ∧ NOwn w' v ((upto r l).map (·.1)) ∧ (∀ b, v.ownBlock = some b → w.heap.size ≤ b ∧ q' ≠ some b) ∧ Step w w' (rdOb g q l) (rdOb g q' (above r l)) := by
  have hul : ((upto r l).map (·.1)).length ≤ 5000 := by have := List.length_filter_le (fun x : Int × Int => decide (x.2 ≤ r)) l; unfold upto; simp at this ⊢; omega
  refine (lawready_gen (some ⟨g, 0, none⟩) r _ w hul (fun w1 w2 => ∃ q', Step w1 w2 (rdOb g q l) (rdOb g q' (above r l))) (fun w1 b1 => rdReady_any g q l r w1 (h.later b1) hl)
    (fun w1 w2 ⟨q', st⟩ => ⟨st.turned.size, fun k hk hk1 => st.turned.block k hk1 (fun e => by have := h.lt k (.inl e); omega)⟩)).mono ?_
  rintro e w' ⟨v, rfl, ho, w1, w2, b1, s1, ⟨q', st⟩, ht, hf⟩
  have hbox : ∀ k ∈ (rdOb g q' (above r l)).W, k ≠ w.heap.size := by
    intro k hk e
    rcases st.writes k hk with e' | e'
    · have := h.lt k (.inl e'); omega
    · omega
  have hok : (rdOb g q' (above r l)).Ok w' := st.ok.turned ht (fun k hk => by rcases hk with hk | hk; exact hbox k hk; cases hk)
  have z1 := b1.size
  have z2 := st.turned.size
  have z3 := ht.size
  refine ⟨v, q', rfl, ho, fun b hb => ⟨by have := hf b hb; omega, fun e => ?_⟩, ⟨⟨ht.os.trans (st.turned.os.trans b1.os), ht.tape.trans (st.turned.tape.trans b1.tape), ht.output.trans (st.turned.output.trans b1.output), by omega, fun k hk hn => ?_⟩, hok, fun k hk => ?_, (fun k hk => by cases hk)⟩⟩
  · have := st.ok.lt b (.inl (by simp [rdOb, qu, e])); have := hf b hb; omega
  · rw [ht.block k (by omega) (by omega), st.turned.block k (by omega) hn, b1.block k hk]
  · rcases st.writes k hk with e | e
    · exact .inl e
    · exact .inr (by omega)
theorem lawready_nil (r : Int) (w : World) : Calls Try.prog 23 #[.pointer none, .int .i64 r] w fun e w' => (∃ a c, e = .returned (.slice a 0 c)) ∧ Below w.heap.size w w' := by
  refine (lawready_gen none r [] w (by simp) (fun w1 w2 => Below w1.heap.size w1 w2) (fun w1 b1 => rdReady_nil r w1) (fun w1 w2 b => ⟨b.size, fun k _ hk => b.block k hk⟩)).mono ?_
  rintro e w' ⟨v, rfl, ho, w1, w2, b1, s1, b2, ht, hf⟩
  obtain ⟨a, c, rfl, -, -, -⟩ := ho.open
  exact ⟨⟨a, c, rfl⟩, (below_then b1 b2).trans (ht.below _ (Nat.le_trans b1.size b2.size) (fun k e => by omega))⟩
set_option maxHeartbeats 1000000 in
theorem same11_yes (v u : Value) (l : List Int) (w : World) (h : NOwn w v l) (k : NOwn w u l) :
    Calls Try.prog 22 #[v, u] w fun e w' => e = .returned (.bool true) ∧ Below w.heap.size w w' := by
  obtain ⟨va, vc, rfl, hvc, hcs, hvm⟩ := h.open
  obtain ⟨ua, uc, rfl, huc, hds, -⟩ := k.open
  have HC : Hid _ := And.intro hcs hds
  have hlm : l.length ≤ maxLen := Nat.le_trans hvc hvm
  unfold maxLen at hlm
  clear h k hcs hds
  go_enter Try.func22, Try.ntmps22
  go_wp2_with fail
  go_loopw [5] (fun iv wr => ∃ (k : Nat), iv = .int .i64 k ∧ k ≤ l.length ∧ Below w.heap.size w wr) (fun iv _ => l.length - (intOf iv).toNat)
  case atStart => exact ⟨0, rfl, by omega, Below.refl _ _⟩
  case round =>
    obtain ⟨k, rfl, hk, hb⟩ := hrel
    by_cases hlt : k < l.length
    · obtain ⟨b1, rfl, -, k1⟩ := HC.out.1 k hlt
      obtain ⟨b2, rfl, -, k2⟩ := HC.out.2 k hlt
      have k1' := cell_later hb k1
      have k2' := cell_later hb k2
      have q1 : (k : Int) < l.length := by omega
      generalize l[k] = x at *
      have HB : Hid _ := hb
      clear k1 k2 hb
      go_wp2_with fail
      go_quiet (fail)
      go_wp2
      go_roundw
      case rel => exact ⟨k + 1, by go_num, by omega, HB.out.trans (dn _ _ _)⟩
      case measure => simp [intOf]; omega
    · obtain rfl : k = l.length := by omega
      go_wp2
      go_ret
      exact ⟨rfl, hb⟩
end Go.Proofs.Ytjelbekjmfnenaa
