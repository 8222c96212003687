/- Change: all changes of a list, or none. -/
import Derived.Test.YtfieliladdadgaaEx10
namespace Go.Proofs.Ytfieliladdadgaa
open Go.RowKit Go.MapKept Go.ChangeMaps
set_option linter.unusedVariables false
set_option maxRecDepth 4000

theorem canAll_take {n : Nat} {l : List (Int × List (BitVec 8))} {k : Nat} (hk : k < l.length) (h : canAll n (l.take k) = true) : canAll n (l.take (k + 1)) = canB n l[k].1 l[k].2.length := by
  rw [← List.take_append_getElem hk]
  unfold canAll at *
  rw [List.all_append, h]
  simp
theorem canAll_false {n : Nat} {l : List (Int × List (BitVec 8))} {k : Nat} (hk : k < l.length) (h : canB n l[k].1 l[k].2.length = false) : canAll n l = false := by
  unfold canAll
  rw [List.all_eq_false]
  exact ⟨l[k], List.getElem_mem hk, by rw [h]; simp⟩
theorem canAll_at {n : Nat} {l : List (Int × List (BitVec 8))} {k : Nat} (hk : k < l.length) (h : canAll n l = true) : canB n l[k].1 l[k].2.length = true := List.all_eq_true.1 h _ (List.getElem_mem hk)
theorem canAll_pre {n : Nat} {l : List (Int × List (BitVec 8))} {k : Nat} (h : canAll n l = true) : canAll n (l.take k) = true := by
  unfold canAll at *
  rw [List.all_eq_true] at *
  exact fun r hr => h r (List.mem_of_mem_take hr)

set_option maxHeartbeats 2000000 in
theorem imChange_any (g b : Nat) (m : Im) (a : Option Addr) (len cap : Nat) (l : List (Int × List (BitVec 8))) (w : World) (h : (im g b m).Ok w) (hw : m.Wf) (hl : l.length = len) (hlc : len ≤ cap) (hlen : len ≤ 140737488355328) (hc : CArgs w a l) :
    Calls Try.prog 14 #[.pointer (some ⟨g, 0, none⟩), .slice a len cap] w fun e w' =>
      (canAll m.n l = true ∧ e = .returned (.int .i64 0) ∧ Step w w' (im g b m) (im g b (chAll m l))) ∨ (canAll m.n l = false ∧ e = .returned (.int .i64 1) ∧ Below w.heap.size w w') := by
  subst hl
  have HH : Hid _ := And.intro h (And.intro hw hc)
  have hlI : (l.length : Int) ≤ 140737488355328 := by omega
  clear h hw hc
  go_enter Try.func14, Try.ntmps14
  go_wp2_with fail
  go_loopw [13] (fun p wr => ∃ k : Nat, k ≤ l.length ∧ p = .int .i64 k ∧ canAll m.n (l.take k) = true ∧ Below w.heap.size w wr) (fun p _ => l.length - (intOf p).toNat)
  case atStart => exact ⟨0, Nat.zero_le _, rfl, rfl, Below.refl _ _⟩
  case round =>
    obtain ⟨k, hk, rfl, hcan, hb⟩ := hrel
    by_cases hlt : k < l.length
    · have q1 : (k : Int) < (l.length : Int) := by omega
      have hokr := HH.out.1.later hb
      obtain ⟨p, off, rfl, hC⟩ : ∃ p off, a = some ⟨p, off, none⟩ ∧ CAt wr p off k l[k] := by
        rcases HH.out.2.2 with e | ⟨p, off, e, hC⟩
        · rw [e] at hlt; simp at hlt
        · exact ⟨p, off, e, (hC k hlt).turned HH.out.1 ((turned_below hb).mono (fun _ h => h.elim))⟩
      have hnext := canAll_take (n := m.n) hlt hcan
      have hfalse := fun e => canAll_false (n := m.n) hlt e
      generalize l[k] = r at *
      obtain ⟨x, c, d1, hrow⟩ := hC.data
      have d0 := hC.lba
      have bx := box2_below wr (.int .i64 r.1) (.slice x r.2.length c) 39
      obtain ⟨e0, e1⟩ := box_cells wr (.int .i64 r.1) (.slice x r.2.length c) 39
      have HB := canBe_any g b m r.1 x r.2.length c _ (hokr.later bx) HH.out.2.1 hC.num hC.len
      have H1 : Hid _ := And.intro hb (And.intro bx (And.intro hnext hfalse))
      clear hokr hC hrow hb bx hnext hfalse hcan
      cases hcb : canB m.n r.1 r.2.length with
      | true =>
        rw [hcb] at HB
        have HB' : Hid _ := HB
        clear HB
        go_wp2_with fail
        refine (Calls.mono HB'.out) ?_
        rintro e w2 ⟨rfl, b2⟩
        have F : Hid _ := And.intro (show canAll m.n (l.take (k + 1)) = true by rw [H1.out.2.2.1, hcb]) (below_then (below_then H1.out.1 H1.out.2.1) b2)
        clear b2 H1 HB' d0 d1 e0 e1 hcb
        go_wp2_with fail
        exact ⟨⟨k + 1, by omega, by go_num, F.out.1, F.out.2⟩, by simp [intOf]; omega⟩
      | false =>
        rw [hcb] at HB
        have HB' : Hid _ := HB
        clear HB
        go_wp2_with fail
        refine (Calls.mono HB'.out) ?_
        rintro e w2 ⟨rfl, b2⟩
        have F : Hid _ := And.intro (H1.out.2.2.2 hcb) (below_then (below_then H1.out.1 H1.out.2.1) b2)
        clear b2 H1 HB' d0 d1 e0 e1 hcb
        go_wp2
        go_ret
        exact .inr ⟨F.out.1, rfl, F.out.2⟩
    · obtain rfl : k = l.length := by omega
      rw [List.take_length] at hcan
      have H2 : Hid _ := And.intro hcan (And.intro (Step.quiet HH.out.1 hb) (HH.out.2.2.turned HH.out.1 ((turned_below hb).mono (fun _ h => h.elim))))
      clear hcan hb
      go_wp2_with fail
      go_loopw [24] (fun p w2 => ∃ k : Nat, k ≤ l.length ∧ p = .int .i64 k ∧ Step w w2 (im g b m) (im g b (chAll m (l.take k))) ∧ CArgs w2 a l) (fun p _ => l.length - (intOf p).toNat)
      case atStart => exact ⟨0, Nat.zero_le _, rfl, H2.out.2.1, H2.out.2.2⟩
      case round =>
        obtain ⟨k, hk, rfl, hst, hC0⟩ := hrel
        by_cases hlt : k < l.length
        · have q1 : (k : Int) < (l.length : Int) := by omega
          obtain ⟨p, off, rfl, hC⟩ : ∃ p off, a = some ⟨p, off, none⟩ ∧ CAt wr p off k l[k] := by
            rcases hC0 with e | ⟨p, off, e, hC⟩
            · rw [e] at hlt; simp at hlt
            · exact ⟨p, off, e, hC k hlt⟩
          have hcb := canAll_at (n := m.n) hlt H2.out.1
          have htk : chAll m (l.take (k + 1)) = chI (chAll m (l.take k)) l[k].1.toNat l[k].2 := by rw [← List.take_append_getElem hlt, chAll_snoc]
          have hwf := chAll_wf HH.out.2.1 (canAll_pre (k := k) H2.out.1)
          have hn := chAll_n m (l.take k)
          rw [htk.symm] at htk
          generalize hr : l[k] = r at *
          obtain ⟨x, c, d1, hrow⟩ := hC.data
          have d0 := hC.lba
          have bx := box2_below wr (.int .i64 r.1) (.slice x r.2.length c) 39
          obtain ⟨e0, e1⟩ := box_cells wr (.int .i64 r.1) (.slice x r.2.length c) 39
          have hok := hst.ok.later bx
          have HB : Hid _ := change_any g b (chAll m (l.take k)) r x c _ hok hwf (by rw [hn]; exact hcb) (hrow.later bx)
          have htk' : chI (chAll m (l.take k)) r.1.toNat r.2 = chAll m (l.take (k + 1)) := by rw [← List.take_append_getElem hlt, chAll_snoc, hr]
          rw [htk'] at HB
          have hC1 : CArgs (wr.alloc (.cells #[.int .i64 r.1, .slice x r.2.length c] 39)) (some ⟨p, off, none⟩) l := hC0.turned hst.ok ((turned_below bx).mono (fun _ h => h.elim))
          have H3 : Hid _ := And.intro (hst.trans (Step.quiet hst.ok bx)) (And.intro hC1 hok)
          clear hst hC0 hC hcb htk htk' hwf hn hrow bx hok hC1 hr
          go_wp2_with fail
          refine (Calls.mono HB.out) ?_
          rintro e w2 ⟨rfl, st2⟩
          have F : Hid _ := And.intro (H3.out.1.trans st2) (H3.out.2.1.turned H3.out.2.2 st2.turned)
          clear st2 H3 HB d0 d1 e0 e1
          go_wp2_with fail
          exact ⟨⟨k + 1, by omega, by go_num, F.out.1, F.out.2⟩, by simp [intOf]; omega⟩
        · obtain rfl : k = l.length := by omega
          rw [List.take_length] at hst
          have F : Hid _ := And.intro H2.out.1 hst
          clear hst hC0
          go_wp2
          go_ret
          exact .inl ⟨F.out.1, rfl, F.out.2⟩
end Go.Proofs.Ytfieliladdadgaa
